/- runes.Bytes. -/
import Derived.Laws.MakeOwn
import Derived.Test.YtkpapggojiejdaaDoorRback
namespace Go.Proofs.YtkpapggojiejdaaDoor
open Go.RowKit Go.PlainAid

/-- What Bytes returns: the bytes, the index of the first number that is no rune, the error. -/
def bytesS (l : List Int) : List UInt8 × Nat × Int :=
  match l.findIdx? (fun r => !isR r) with
  | some i => ([], i, 7)
  | none => if 8000 < wid l then ([], 0, 3) else (encs l, 0, 0)
theorem bytesS_bad {l : List Int} {k : Nat} {r : Int} (h : ∀ x ∈ l.take k, isR x = true) (hk : l[k]? = some r) (hr : isR r = false) : bytesS l = ([], k, 7) := by
  have : l.findIdx? (fun r => !isR r) = some k := by
    obtain ⟨hk1, hk2⟩ := List.getElem?_eq_some_iff.1 hk
    rw [List.findIdx?_eq_some_iff_getElem]
    refine ⟨hk1, by rw [hk2, hr]; rfl, fun j hj => ?_⟩
    have := h (l[j]'(by omega)) (List.mem_take_iff_getElem.2 ⟨j, by omega, rfl⟩)
    rw [this]; decide
  unfold bytesS; rw [this]
theorem bytesS_good {l : List Int} (h : ∀ x ∈ l, isR x = true) : bytesS l = if 8000 < wid l then ([], 0, 3) else (encs l, 0, 0) := by
  have : l.findIdx? (fun r => !isR r) = none := by
    rw [List.findIdx?_eq_none_iff]
    intro x hx; rw [h x hx]; rfl
  unfold bytesS; rw [this]
def BytesV (l : List Int) (w : World) (e : Ending) (w' : World) : Prop :=
  ∃ v, e = .returned (.tuple #[v, .int .i64 ((bytesS l).2.1 : Int), .int .i64 (bytesS l).2.2]) ∧ w'.ownsRow w.heap.size 5 1 v (bytesS l).1.length ((bytesS l).1.map bc) ∧ Below w.heap.size w w'
def RunesAt (w : World) (v : Value) (l : List Int) : Prop := RowAt w v (l.map (Value.int .i32))
theorem take_snoc {l : List Int} {k : Nat} {r : Int} (h : l[k]? = some r) : l.take (k + 1) = l.take k ++ [r] := by
  rw [List.take_add_one, h]; rfl
theorem wid_take_le (l : List Int) (k : Nat) : wid (l.take k) ≤ 4 * k := by
  induction k with
  | zero => simp [wid]
  | succ k ih =>
    cases h : l[k]? with
    | none => rw [List.take_add_one, h]; simp; omega
    | some r => rw [take_snoc h, wid_app, wid_cons, wid_nil]; have := wO_le r; omega
theorem wid_take_mono (l : List Int) (k : Nat) : wid (l.take k) ≤ wid l := by
  have := List.take_append_drop k l
  conv => rhs; rw [← this]
  rw [wid_app]; omega
theorem info5 : (Tryd.prog.info? 5).map (fun i => (i.zero, i.size, i.bytes)) = some (some (.int .u8 0), 1, 1) := by kernel_rfl
theorem own_some {w : World} {B e n : Nat} {v : Value} {xs : List Value} (h : w.ownsRow B e 1 v n xs) (hn : 1 ≤ n) : ∃ g cap, v = .slice (some ⟨g, 0, none⟩) n cap ∧ B ≤ g ∧ g < w.heap.size ∧ ∀ j u, xs[j]? = some u → w.cell? ((⟨g, 0, none⟩ : Addr).add j) = some u := by
  have hr := RowAt.own h
  rcases h.2 with ⟨_, h0⟩ | ⟨g, cap, cur, rfl, hg, hb, _, _, _, ht⟩
  · omega
  · refine ⟨g, cap, rfl, hg, (Array.getElem?_eq_some_iff.1 hb).1, fun j u hj => ?_⟩
    have e : (⟨g, 0, none⟩ : Addr).add j = ⟨g, j, none⟩ := by cases j <;> simp [Addr.add]
    rw [e]
    rw [← ht] at hj
    have hj' : cur.toList[j]? = some u := by
      rw [List.getElem?_take] at hj
      split at hj
      · exact hj
      · cases hj
    simp only [World.cell?, hb, Option.isSome_none]
    simpa using hj'

set_option maxRecDepth 100000 in
set_option maxHeartbeats 3200000 in
theorem bytes_any (v : Value) (l : List Int) (w : World) (h : RunesAt w v l) (hl : l.length ≤ 100000000) (hm : MarksTab w) (hg : 0 < w.heap.size) :
    Calls Tryd.prog 23 #[v] w (BytesV l w) := by
  obtain ⟨a, cap, hv⟩ := h.slice
  rw [List.length_map] at hv
  obtain ⟨n, hn⟩ : ∃ n, n = l.length := ⟨_, rfl⟩
  rw [← hn] at hv
  subst hv
  have hnb : n ≤ 100000000 := by omega
  have H := Lib.hid h
  have HN := Lib.hid hn
  have HM := Lib.hid hm
  have HC : Hid (∀ w', Below w.heap.size w w' → ∀ (k : Nat) r, l[k]? = some r → ∃ g off, a = some ⟨g, off, none⟩ ∧ w'.cell? ⟨g, off + k, none⟩ = some (.int .i32 r)) := Lib.hid fun w' hb k r hk => by
    rcases (h.below hb (Nat.le_refl _)) with ⟨_, _, _, hnil⟩ | ⟨g, off, nn, cc, he, hnn, _, hcell⟩
    · rw [List.map_eq_nil_iff] at hnil; rw [hnil] at hk; simp at hk
    · exact ⟨g, off, (Value.slice.inj he).1, hcell k _ (by rw [List.getElem?_map, hk]; rfl)⟩
  clear h hm hn hl
  go_enter Tryd.func23, Tryd.ntmps23
  go_wp2
  go_loop [5, 15] (fun x5 x15 => ∃ k : Nat, k ≤ n ∧ x15 = .int .i64 k ∧ x5 = .int .i64 (wid (l.take k) : Nat) ∧ Hid (∀ x ∈ l.take k, isR x = true)) (fun _ x15 => n - (intOf x15).toNat)
  case atStart => exact ⟨0, Nat.zero_le _, rfl, rfl, Lib.hid (by simp)⟩
  case round =>
    obtain ⟨k, hk, rfl, rfl, HA⟩ := hrel
    by_cases hlt : k < n
    · obtain ⟨r, hr⟩ : ∃ r, l[k]? = some r := ⟨_, List.getElem?_eq_getElem (by rw [← HN.out]; exact hlt)⟩
      obtain ⟨g, off, ha, c0⟩ := HC.out w (Below.refl _ _) k r hr
      obtain ⟨d, hd⟩ : ∃ d, wO r = d := ⟨_, rfl⟩
      have CW : Hid (∀ w, Calls Tryd.prog 37 #[.int .i32 r] w fun e w' => e = .returned (.int .i64 (d : Int)) ∧ w = w') := Lib.hid (by
        rw [← hd]; exact fun w => widthOf_any r w)
      have hw1 := wid_take_le l k
      have hd4 : d ≤ 4 := by rw [← hd]; exact wO_le r
      obtain ⟨s, hs⟩ : ∃ s, wid (l.take k) = s := ⟨_, rfl⟩
      rw [hs] at hw1
      rw [hs]
      cases hir : isR r
      · have HB : Hid (bytesS l = ([], k, 7)) := Lib.hid (bytesS_bad HA.out hr hir)
        have hd0 : d = 0 := by rw [← hd]; exact wO_0 hir
        subst hd0
        subst ha
        clear hd hs hr hir
        go_wp2_with (go_at_call 37; refine (CW.out _).mono ?_; rintro e w2 ⟨rfl, rfl⟩)
        go_ret3
        exact ⟨_, by rw [HB.out]; rfl, by rw [HB.out]; exact ⟨rfl, .inl ⟨rfl, rfl⟩⟩, Below.refl _ _⟩
      · have hd1 : 1 ≤ d := by rw [← hd]; exact wO_pos hir
        have hdz : ((d : Int) == 0) = false := beq_eq_false_iff_ne.2 (by omega)
        have HA' : Hid (∀ x ∈ l.take (k + 1), isR x = true) := Lib.hid (by
          rw [take_snoc hr]; intro x hx; rcases List.mem_append.1 hx with hx | hx
          · exact HA.out x hx
          · rw [List.mem_singleton.1 hx]; exact hir)
        have HS : Hid (wid (l.take (k + 1)) = s + d) := Lib.hid (by rw [take_snoc hr, wid_app, wid_cons, wid_nil, hs, hd, Nat.add_zero])
        subst ha
        clear hd hs hr hir
        go_wp2_with (go_at_call 37; refine (CW.out _).mono ?_; rintro e w2 ⟨rfl, rfl⟩)
        go_round
        case rel => exact ⟨k + 1, by omega, by go_num, by rw [HS.out]; go_num, HA'⟩
        case measure => simp [intOf]; omega
    · have hkn : l.take k = l := by rw [List.take_of_length_le]; rw [← HN.out]; omega
      rw [hkn] at HA
      rw [hkn]
      have HB := Lib.hid (bytesS_good HA.out)
      obtain ⟨s, hs⟩ : ∃ s, wid l = s := ⟨_, rfl⟩
      have hsb : s ≤ 4 * k := by rw [← hs, ← hkn]; exact wid_take_le l k
      rw [hs]
      by_cases h8 : 8000 < s
      · have HB' : Hid (bytesS l = ([], 0, 3)) := Lib.hid (by rw [HB.out, if_pos (by omega)])
        clear hkn hs
        go_wp2
        go_ret3
        exact ⟨_, by rw [HB'.out]; rfl, by rw [HB'.out]; exact ⟨rfl, .inl ⟨rfl, rfl⟩⟩, Below.refl _ _⟩
      · have HB' : Hid (bytesS l = (encs l, 0, 0)) := Lib.hid (by rw [HB.out, if_neg (by omega)])
        have HS := Lib.hid hs
        have h8' : s ≤ 8000 := by omega
        have hmk : ∀ u : World, (Instr.makeSlice 22 (.int .i64 0) (.int .i64 (s : Int))).run Tryd.prog u = .ok (.slice (some ⟨u.heap.size, 0, none⟩) 0 s) (u.alloc (.cells (madeCells #[.int .u8 0] s) 5)) := fun u => by
          obtain ⟨i0, hi, hz0, hz1, hz2⟩ := info_parts2 info5
          have := run_makeSlice (P := Tryd.prog) u 22 5 i0 (.int .u8 0) Tryd.underlying22 hi hz0 .i64 .i64 0 s (by omega) (by omega) (by rw [hz1]; omega) (by rw [hz2]; omega) (by omega)
          simpa [hz1, Value.cells] using this
        clear hkn hs h8
        go_wp2
        obtain ⟨i0, hi, hj0, hj1, hj2⟩ := info_parts2 info5
        have hown0 : (w.alloc (.cells (madeCells #[.int .u8 0] s) 5)).ownsRow w.heap.size 5 1 (.slice (some ⟨w.heap.size, 0, none⟩) 0 s) 0 [] :=
          World.ownsRow_made w _ s (Nat.le_refl _) (by unfold maxLen; omega) (by rw [size_madeCells]; omega)
        go_loopw [2, 35] (fun x2 x35 wr => ∃ k : Nat, k ≤ n ∧ x35 = .int .i64 k ∧ Below w.heap.size w wr ∧ Hid (wr.ownsRow w.heap.size 5 1 x2 (encs (l.take k)).length ((encs (l.take k)).map bc)) ∧ w.heap.size ≤ wr.heap.size) (fun _ x35 _ => n - (intOf x35).toNat)
        case atStart => exact ⟨0, Nat.zero_le _, rfl, (Below.refl _ _).alloc (Nat.le_refl _) _, Lib.hid hown0, by simp⟩
        case round =>
          obtain ⟨k, hk, rfl, hB, HO, hsz⟩ := hrel
          clear hown0
          by_cases hlt : k < n
          · obtain ⟨r, hr⟩ : ∃ r, l[k]? = some r := ⟨_, List.getElem?_eq_getElem (by rw [← HN.out]; exact hlt)⟩
            obtain ⟨g, off, ha, c0⟩ := HC.out wr hB k r hr
            have hir : isR r = true := HA.out r (List.mem_of_getElem? hr)
            obtain ⟨d, hd⟩ : ∃ d, wO r = d := ⟨_, rfl⟩
            have hd1 : 1 ≤ d := by rw [← hd]; exact wO_pos hir
            have hd4 : d ≤ 4 := by rw [← hd]; exact wO_le r
            have CE : Hid (Calls Tryd.prog 13 #[.int .i32 r] wr fun e w1 => ∃ g cap, e = .returned (.tuple #[.slice (some ⟨g, 0, none⟩) d cap, .int .i64 0]) ∧
                (∀ j u, ((enc r).map bc)[j]? = some u → w1.cell? ((⟨g, 0, none⟩ : Addr).add j) = some u) ∧ Below wr.heap.size wr w1) := Lib.hid (by
              refine (encode_any r wr (marks_below HM.out hB hg) (Nat.lt_of_lt_of_le hg hsz)).mono ?_
              rintro e w1 ⟨v, h1, h2, h3⟩
              rw [hir, if_pos rfl] at h1
              rw [enc_len, hd] at h2
              obtain ⟨g, cap, rfl, _, _, h5⟩ := own_some h2 hd1
              exact ⟨g, cap, h1, h5, h3⟩)
            have hml := wid_take_mono l k
            rw [HS.out, ← encs_len] at hml
            have HL : Hid ((enc r).length = d) := Lib.hid (by rw [enc_len, hd])
            have HT : Hid (encs (l.take (k + 1)) = encs (l.take k) ++ enc r) := Lib.hid (by rw [take_snoc hr, encs_app, encs_cons, encs_nil, List.append_nil])
            obtain ⟨M, hM⟩ : ∃ M, encs (l.take k) = M := ⟨_, rfl⟩
            rw [hM] at hml HO HT
            subst ha
            clear hd hr hir hM
            go_wp2_with (first | (go_at_call 13; refine CE.out.mono ?_; rintro e w1 ⟨g2, cap2, rfl, hc2, hb2⟩; have Hc2 := Lib.hid hc2; clear hc2) | (at_builtin; refine wpList_append_own _ rfl _ _ 22 rfl w.heap.size 5 i0 (.int .u8 0) 1 1 Tryd.underlying22 hi hj0 hj1 hj2 rfl (by decide) _ _ _ rfl (own_below HO.out hb2) ⟨g2, 0, none⟩ d cap2 ((enc r).map bc) rfl (by rw [List.length_map, HL.out, Nat.mul_one]) Hc2.out (one_bc _) (by unfold maxLen; omega) (by omega) (by have := hb2.size; omega) ?_; intro v' w2 hown' hgrow _))
            have hsz1 : w.heap.size ≤ w1.heap.size := Nat.le_trans hsz hb2.size
            have hO1 := own_below HO.out hb2
            have HB2 : Hid (Below w.heap.size w w2) := Lib.hid ((hB.trans (hb2.mono hsz)).grown hgrow hsz1 (fun k hk => (hO1.lt k hk).1))
            have hs2 : w.heap.size ≤ w2.heap.size := Nat.le_trans hsz1 hgrow.size
            have HO2 : Hid (w2.ownsRow w.heap.size 5 1 v' (encs (l.take (k + 1))).length ((encs (l.take (k + 1))).map bc)) := Lib.hid (by
              rw [HT.out]; exact own_app HL.out hown')
            clear hown' hgrow hO1
            go_wp2
            go_roundw
            case rel => exact ⟨k + 1, by omega, by go_num, HB2.out, HO2, hs2⟩
            case measure => simp [intOf]; omega
          · have hkn : l.take k = l := by rw [List.take_of_length_le]; rw [← HN.out]; omega
            rw [hkn] at HO
            have HF := Lib.hid hB
            clear hkn hB
            go_wp2
            go_ret3
            exact ⟨_, by rw [HB'.out]; rfl, by rw [HB'.out]; exact HO.out, HF.out⟩
end Go.Proofs.YtkpapggojiejdaaDoor
