/- Layer 3: Lines. -/
import Derived.Test.YtbajikkjkiacnaaDoorPnest
namespace Go.Proofs.YtbajikkjkiacnaaDoor
open Go.RowKit Go.PlainAid

theorem linesF_len : ∀ (l : List UInt8) (a i : Int), (linesF a i l).length ≤ l.length + 1 := by
  intro l
  induction l with
  | nil => intro a i; simp [linesF]
  | cons c t ih =>
    intro a i
    rw [linesF]
    split
    · have := ih (i + 1) (i + 1); simp only [List.length_cons]; omega
    · have := ih a (i + 1); simp only [List.length_cons]; omega
/-- What Lines returns. -/
def linesS (l : List UInt8) : List Sp × Int := if (chkS l).2 = 0 then (linesG l, 0) else ([], (chkS l).2)
def LnV (l : List UInt8) (w : World) (e : Ending) (w' : World) : Prop :=
  ∃ v, e = .returned (.tuple #[v, .int .i64 (linesS l).2]) ∧ w'.ownsRow w.heap.size 25 2 v (linesS l).1.length (scs (linesS l).1) ∧ Below w.heap.size w w'
theorem infoSp : (Tryd.prog.info? 25).map (fun i => (i.zero, i.size, i.bytes)) = some (some (.agg #[.int .i64 0, .int .i64 0]), 2, 16) := by kernel_rfl

set_option maxRecDepth 50000 in
set_option maxHeartbeats 3200000 in
theorem Lines_any (v : Value) (l : List UInt8) (w : World) (h : BytesAt w v l) (hl : l.length ≤ 1000000) (hm : MarksTab w) (hg : 0 < w.heap.size) :
    Calls Tryd.prog 28 #[v] w (LnV l w) := by
  obtain ⟨x, e, hx, he⟩ : ∃ (x : Int) (e : Int), chkV l = .tuple #[.int .i64 x, .int .i64 e] ∧ e = (chkS l).2 := ⟨_, _, rfl, rfl⟩
  have C : Hid (Calls Tryd.prog 49 #[v] w fun e' w' => e' = .returned (.tuple #[.int .i64 x, .int .i64 e]) ∧ Below w.heap.size w w') := Lib.hid (by
    rw [← hx]; exact check_any v l w h (by omega) hm hg)
  obtain ⟨a, cap, hv⟩ := h.slice
  rw [List.length_map] at hv
  obtain ⟨n, hn⟩ : ∃ n, n = l.length := ⟨_, rfl⟩
  rw [← hn] at hv
  subst hv
  have H := Lib.hid h
  have HN := Lib.hid hn
  by_cases hc : e = 0
  · have HV : Hid (linesS l = (linesG l, 0)) := Lib.hid (by unfold linesS; rw [← he, if_pos hc])
    have hnb : n ≤ 1000000 := by omega
    obtain ⟨i0, hi, hj0, hj1, hj2⟩ := info_parts2 infoSp
    subst hc
    clear h hm hx he hn hl
    go_enter Tryd.func28, Tryd.ntmps28
    go_wp2_with (go_at_call 49; refine C.out.mono ?_; rintro e w1 ⟨rfl, hb1⟩)
    go_loopw [6, 7, 20] (fun x6 x7 x20 wr => ∃ (k : Nat) (pre : List Sp) (a0 : Int), x20 = .int .i64 k ∧ k ≤ n ∧ x7 = .int .i64 a0 ∧ pre.length ≤ k ∧ Hid (linesG l = pre ++ linesF a0 k (l.drop k)) ∧ Hid (wr.ownsRow w.heap.size 25 2 x6 pre.length (scs pre)) ∧ Below w.heap.size w wr) (fun _ _ x20 _ => n - (intOf x20).toNat)
    case atStart => exact ⟨0, [], 0, rfl, Nat.zero_le _, rfl, Nat.le_refl _, Lib.hid rfl, Lib.hid ⟨rfl, .inl ⟨rfl, rfl⟩⟩, hb1⟩
    case round =>
      obtain ⟨k, pre, a0, rfl, hk, rfl, hpk, HG, HO, hB⟩ := hrel
      by_cases hlt : k < n
      · obtain ⟨c, hcc⟩ : ∃ c, l[k]? = some c := ⟨_, List.getElem?_eq_getElem (by rw [← HN.out]; exact hlt)⟩
        have hdr : l.drop k = c :: l.drop (k + 1) := by
          have h1 : k < l.length := by rw [← HN.out]; exact hlt
          rw [List.drop_eq_getElem_cons h1]; rw [List.getElem?_eq_getElem h1] at hcc; rw [Option.some.inj hcc]
        have hG := HG.out
        rw [hdr, linesF] at hG
        rcases H.out.below hB (Nat.le_refl _) with ⟨_, _, _, hnil⟩ | ⟨g, off, nn, cc, hv, hnn, _, hcell⟩
        · rw [List.map_eq_nil_iff] at hnil; rw [hnil] at hcc; simp at hcc
        · have c0 : wr.cell? ⟨g, off + k, none⟩ = some (.int .u8 (c.toNat : Int)) := hcell _ _ (bc_at hcc)
          obtain ⟨rfl, hs2, hs3⟩ := Value.slice.inj hv
          clear hcell hv hnn hs2 hs3 hdr
          obtain ⟨p, hp⟩ : ∃ p, pre.length = p := ⟨_, rfl⟩
          rw [hp] at hpk HO
          have HP := Lib.hid hp
          clear hp
          by_cases h10 : (c.toNat : Int) = 10
          · rw [if_pos h10] at hG
            have hbe : ((c.toNat : Int) == 10) = true := by rw [beq_iff_eq]; exact h10
            have HG' : Hid (linesG l = (pre ++ [(a0, (k : Int))]) ++ linesF ((k + 1 : Nat) : Int) ((k + 1 : Nat) : Int) (l.drop (k + 1))) := Lib.hid (by rw [hG, List.append_assoc]; rfl)
            clear hG hcc h10
            go_wp2_with (at_builtin; refine wpList_append_lies _ rfl _ _ 22 rfl w.heap.size 25 i0 (.agg #[.int .i64 0, .int .i64 0]) 2 16 Tryd.underlying22 hi hj0 hj1 hj2 rfl (by decide) _ _ _ rfl (HO.out.alloc _) ⟨wr.heap.size, 0, none⟩ 1 1 [.int .i64 a0, .int .i64 (k : Int)] rfl rfl (new_cells wr [.int .i64 a0, .int .i64 (k : Int)] _) (by simp [Value.oneCell']) (by omega) (by unfold maxLen; omega) (by omega) (by rw [World.size_alloc]; have := hB.size; omega) (wr.heap.size + 1) (by simp) ?_; intro g1 cap1 w3 hown1 hgrow1 hat1 hlt1; have HB3 : Below w.heap.size w w3 := (hB.alloc hB.size _).grown hgrow1 (by rw [World.size_alloc]; have := hB.size; omega) (fun j hj => (HO.out.lt j hj).1); have HO3 := Lib.hid hown1; clear hown1 hgrow1 hat1)
            go_roundw
            case rel => exact ⟨k + 1, pre ++ [(a0, (k : Int))], ((k + 1 : Nat) : Int), by go_num, by omega, by go_num, by rw [List.length_append, HP.out, List.length_singleton]; omega, HG', Lib.hid (by rw [List.length_append, HP.out, scs_app]; exact HO3.out), HB3⟩
            case measure => simp [intOf]; omega
          · rw [if_neg h10] at hG
            have hbe : ((c.toNat : Int) == 10) = false := by rw [beq_eq_false_iff_ne]; exact h10
            have HG' : Hid (linesG l = pre ++ linesF a0 ((k + 1 : Nat) : Int) (l.drop (k + 1))) := Lib.hid hG
            clear hG hcc h10
            go_wp2
            go_roundw
            case rel => exact ⟨k + 1, pre, a0, by go_num, by omega, rfl, by rw [HP.out]; omega, HG', by rw [HP.out]; exact HO, hB⟩
            case measure => simp [intOf]; omega
      · obtain rfl : k = n := by omega
        obtain ⟨p, hp⟩ : ∃ p, pre.length = p := ⟨_, rfl⟩
        rw [hp] at hpk HO
        have HE : Hid (linesG l = pre ++ [(a0, (k : Int))] ∧ (pre ++ [(a0, (k : Int))]).length = p + 1) := Lib.hid (by
          refine ⟨?_, by rw [List.length_append, hp]; rfl⟩
          have := HG.out
          rw [List.drop_of_length_le (by rw [← HN.out]; omega), linesF] at this
          exact this)
        clear hp
        go_wp2_with (at_builtin; refine wpList_append_lies _ rfl _ _ 22 rfl w.heap.size 25 i0 (.agg #[.int .i64 0, .int .i64 0]) 2 16 Tryd.underlying22 hi hj0 hj1 hj2 rfl (by decide) _ _ _ rfl (HO.out.alloc _) ⟨wr.heap.size, 0, none⟩ 1 1 [.int .i64 a0, .int .i64 (k : Int)] rfl rfl (new_cells wr [.int .i64 a0, .int .i64 (k : Int)] _) (by simp [Value.oneCell']) (by omega) (by unfold maxLen; omega) (by omega) (by rw [World.size_alloc]; have := hB.size; omega) (wr.heap.size + 1) (by simp) ?_; intro g1 cap1 w3 hown1 hgrow1 hat1 hlt1; have HB3 : Below w.heap.size w w3 := (hB.alloc hB.size _).grown hgrow1 (by rw [World.size_alloc]; have := hB.size; omega) (fun j hj => (HO.out.lt j hj).1); have HO3 := Lib.hid hown1; clear hown1 hgrow1 hat1)
        go_returns
        refine ⟨_, by rw [HV.out]; rfl, ?_, HB3⟩
        rw [HV.out]
        simp only
        rw [HE.out.1, HE.out.2, scs_app]
        exact HO3.out
  · have HV : Hid (linesS l = ([], e)) := Lib.hid (by unfold linesS; rw [← he, if_neg hc])
    have hne : (e != 0) = true := by rw [bne_iff_ne]; exact hc
    clear h hm hx he hn hl hc
    go_enter Tryd.func28, Tryd.ntmps28
    go_wp2_with (go_at_call 49; refine C.out.mono ?_; rintro e w1 ⟨rfl, hb1⟩)
    go_returns
    exact ⟨_, by rw [HV.out]; rfl, by rw [HV.out]; exact ⟨rfl, .inl ⟨rfl, rfl⟩⟩, hb1⟩
end Go.Proofs.YtbajikkjkiacnaaDoor
