/- The reference's Of; the law's ints. -/
import Derived.Test.YtbkkmcfpjpbhaaaSrm
import Derived.Deep.OwnRows
import Derived.Laws.OwnMore
namespace Go.Proofs.Ytbkkmcfpjpbhaaa
open Go.RowKit Go.PlainAid

theorem infoBool : (Try.prog.info? 4).map (fun i => (i.zero, i.size, i.bytes)) = some (some (.bool false), 1, 1) := by kernel_rfl
theorem made_bools (w : World) (n : Nat) (hn : n ≤ 2000000) (C : Array Value) (hC : C = madeCells #[.bool false] n) : (w.alloc (.cells C 4)).ownsRow w.heap.size 4 1 (.slice (some ⟨w.heap.size, 0, none⟩) n n) n ((List.replicate n false).map .bool) := by
  have e : C.toList = (List.replicate n false).map Value.bool := by
    rw [hC, toList_madeCells_one, List.map_replicate]
  have hs : C.size = n := by rw [hC, size_madeCells]
  rw [← e]
  exact ⟨by simp [hs], .inr ⟨w.heap.size, n, C, rfl, Nat.le_refl _, World.alloc_heap_new _ _, Nat.le_refl _, by unfold maxLen; omega, by omega, by rw [List.take_of_length_le (by simp [hs])]⟩⟩
def upE (l : List Int) (n : Nat) : List Nat := (List.range n).filter fun j => decide ((j : Int) ∈ l)
theorem upE_yes {l : List Int} {n : Nat} (h : (n : Int) ∈ l) : upE l (n + 1) = upE l n ++ [n] := by
  unfold upE; rw [List.range_succ, List.filter_append]; simp [h]
theorem upE_no {l : List Int} {n : Nat} (h : (n : Int) ∉ l) : upE l (n + 1) = upE l n := by
  unfold upE; rw [List.range_succ, List.filter_append]; simp [h]
theorem upE_le (l : List Int) (n : Nat) : (upE l n).length ≤ n := by
  unfold upE; exact Nat.le_trans (List.length_filter_le _ _) (by rw [List.length_range]; exact Nat.le_refl _)
/-- The places that are marked are the numbers that were met. -/
def Marked (l : List Int) (k N : Nat) (bs : List Bool) : Prop :=
  bs.length = N ∧ (∀ j : Nat, j < N → bs[j]? = some (decide ((j : Int) ∈ l.take k))) ∧ ∀ x ∈ l.take k, 0 ≤ x ∧ x ≤ 65535
theorem take_snocI {l : List Int} {k : Nat} {x : Int} (h : l[k]? = some x) : l.take (k + 1) = l.take k ++ [x] := by rw [List.take_add_one, h]; rfl
theorem marked_0 (l : List Int) (N : Nat) : Marked l 0 N (List.replicate N false) :=
  ⟨List.length_replicate .., fun j hj => by rw [List.getElem?_replicate, if_pos hj]; simp, fun x hx => by simp at hx⟩
theorem marked_step {l : List Int} {k N x : Nat} {bs : List Bool} (h : Marked l k N bs) (hk : l[k]? = some (x : Int)) (hx : x ≤ 65535) : Marked l (k + 1) N (bs.set x true) := by
  obtain ⟨h1, h2, h3⟩ := h
  refine ⟨by rw [List.length_set, h1], fun j hj => ?_, fun y hy => ?_⟩
  · rw [take_snocI hk, List.getElem?_set]
    by_cases e : x = j
    · subst e; rw [if_pos rfl, if_pos (by omega)]; simp
    · rw [if_neg e, h2 j hj]
      have e2 : ((j : Int) ∈ l.take k ++ [(x : Int)]) ↔ ((j : Int) ∈ l.take k) := by
        rw [List.mem_append, List.mem_singleton]
        exact ⟨fun h => h.resolve_right (by omega), .inl⟩
      simp only [e2]
  · rw [take_snocI hk] at hy
    rcases List.mem_append.1 hy with hy | hy
    · exact h3 y hy
    · obtain rfl := List.mem_singleton.1 hy; omega
set_option maxRecDepth 100000 in
set_option maxHeartbeats 6400000 in
theorem rOf_any (v : Value) (l : List Int) (w : World) (h : NumAt w v l) (hl : l.length ≤ 100000) :
    Calls Try.prog 45 #[v] w fun e w' => e = .returned (.tuple #[.string (str (ofS l).1), .int .i64 (ofS l).2]) ∧ Below w.heap.size w w' := by
  have CI := Lib.hid (fun x W => rscope_any x W)
  obtain ⟨a, n, c, rfl, hn, hc, hm⟩ := h
  have HM := Lib.hid hm
  have HN := Lib.hid hn
  have hnb : n ≤ 100000 := by omega
  obtain ⟨N, hN⟩ : ∃ n, n = 65536 := ⟨_, rfl⟩
  obtain ⟨C1, hC1⟩ : ∃ c, c = madeCells #[.bool false] N := ⟨_, rfl⟩
  have hm1 : ∀ u : World, (Instr.makeSlice 79 (.int .i64 65536) (.int .i64 65536)).run Try.prog u = .ok (.slice (some ⟨u.heap.size, 0, none⟩) N N) (u.alloc (.cells C1 4)) := fun u => by
    rw [hC1, hN]; exact run_make_row' 79 4 (.bool false) 1 Try.underlying79 infoBool rfl .i64 .i64 65536 (by omega) (by omega) u
  have HNN := Lib.hid hN
  have hNb : N ≤ 65536 := by omega
  have HO0 := Lib.hid (made_bools w N (by omega) C1 hC1)
  have HB0 : Hid (Below w.heap.size w (w.alloc (.cells C1 4))) := Lib.hid ((Below.refl _ _).alloc (Nat.le_refl _) _)
  clear hm hn hl hC1 hN
  obtain ⟨i0, hi, hj0, hj1, hj2⟩ := info_parts2 infoU8
  go_enter Try.func45, Try.ntmps45
  go_wp2_with fail
  -- MARK0
  go_loopw [5] (fun x5 wr => ∃ (k : Nat) (bs : List Bool), x5 = .int .i64 (k : Int) ∧ k ≤ n ∧ Hid (Marked l k N bs) ∧ Hid (wr.ownsRow w.heap.size 4 1 (.slice (some ⟨w.heap.size, 0, none⟩) N N) N (bs.map .bool)) ∧ Hid (Below w.heap.size w wr)) (fun x5 _ => n - (intOf x5).toNat)
  case atStart => exact ⟨0, List.replicate N false, rfl, Nat.zero_le _, Lib.hid (marked_0 l N), HO0, HB0⟩
  case round =>
    obtain ⟨k, bs, rfl, hk, HMk, HO, HB⟩ := hrel
    by_cases hlt : k < n
    · obtain ⟨x, hxk⟩ : ∃ x, l[k]? = some x := ⟨_, List.getElem?_eq_getElem (by rw [← HN.out]; exact hlt)⟩
      rcases HM.out with hl0 | ⟨g, off, rfl, hg, hcell⟩
      · rw [hl0] at hxk; cases hxk
      have c0 := (HB.out.cell (p := ⟨g, off + k, none⟩) hg).trans (hcell k x hxk)
      have hd : decide ((k : Int) < (n : Int)) = true := decide_eq_true (by omega)
      have hk0 : (0 : Int) ≤ (k : Int) := Int.natCast_nonneg _
      have hk1 : (k : Int) < (n : Int) := by omega
      have CI1 := Lib.hid (CI.out x wr)
      by_cases hin : 0 ≤ x ∧ x ≤ 65535
      · rw [decide_eq_true hin] at CI1
        obtain ⟨y, rfl⟩ : ∃ y : Nat, x = y := ⟨x.toNat, by omega⟩
        have hyN : y < N := by have := HNN.out; omega
        have HMk2 : Hid (Marked l (k + 1) N (bs.set y true)) := Lib.hid (marked_step HMk.out hxk (by omega))
        obtain ⟨b0, hb0⟩ : ∃ b, bs[y]? = some b := ⟨_, List.getElem?_eq_getElem (by rw [HMk.out.1]; exact hyN)⟩
        have hcy : wr.cell? ⟨w.heap.size, y, none⟩ = some (.bool b0) := by
          rw [HO.out.cellAt y (by omega), List.getElem?_map, hb0]; rfl
        have hfy := HO.out.frozenAt y
        have HO1 : Hid ((wr.setCell ⟨w.heap.size, y, none⟩ (.bool true)).ownsRow w.heap.size 4 1 (.slice (some ⟨w.heap.size, 0, none⟩) N N) N ((bs.set y true).map .bool)) := Lib.hid (by
          have := (HO.out.stored y (.bool true)).1
          rw [List.map_set]; exact this)
        have HB1 : Hid (Below w.heap.size w (wr.setCell ⟨w.heap.size, y, none⟩ (.bool true))) := Lib.hid (HB.out.setCell (Nat.le_refl _) _)
        have hy0 : (0 : Int) ≤ (y : Int) := Int.natCast_nonneg _
        have hy1 : (y : Int) < (N : Int) := by omega
        clear hxk hcell hb0
        go_wp2_with fail
        refine CI1.out.mono ?_
        rintro e w1 ⟨rfl, rfl⟩
        go_wp2_with fail
        -- MARK1
        exact ⟨⟨k + 1, _, by go_num, by omega, HMk2, HO1, HB1⟩, by simp [intOf]; omega⟩
      · rw [decide_eq_false hin] at CI1
        have HV : Hid (ofS l = ([], 7)) := Lib.hid (by unfold ofS; rw [if_pos (bad_yes' (List.mem_of_getElem? hxk) (by omega))])
        clear hxk hcell hin
        go_wp2_with fail
        refine CI1.out.mono ?_
        rintro e w1 ⟨rfl, rfl⟩
        go_wp2_with fail
        go_ret2
        exact ⟨by rw [HV.out]; rfl, HB.out⟩
    · obtain rfl : k = n := by omega
      have hd : decide ((k : Int) < (k : Int)) = false := decide_eq_false (Int.lt_irrefl _)
      have hb : badOf l = false := bad_not' (by have := HMk.out.2.2; rw [List.take_of_length_le (by rw [HN.out]; exact Nat.le_refl _)] at this; exact this)
      have HV : Hid (strE (ofS l) = strE (outS (ofL l))) := Lib.hid (by unfold ofS outS; rw [if_neg (by rw [hb]; simp)])
      have HBits : Hid (∀ j : Nat, j < N → wr.cell? ⟨w.heap.size, j, none⟩ = some (.bool (decide ((j : Int) ∈ l)))) := Lib.hid fun j hj => by
        rw [HO.out.cellAt j (by omega), List.getElem?_map, HMk.out.2.1 j hj, List.take_of_length_le (by rw [HN.out]; exact Nat.le_refl _)]; rfl
      have HG : Hid (w.heap.size + 1 ≤ wr.heap.size) := Lib.hid (by
        rcases own_form HO.out with ⟨hv, _⟩ | ⟨g, c, hv, _, hg⟩
        · cases hv
        · cases hv; exact hg)
      have HE0 : upE l N = ofL l := by rw [HNN.out, upE, ofL]
      obtain ⟨d, hdd⟩ : ∃ d, ofL l = d := ⟨_, rfl⟩
      rw [hdd] at HV HE0
      have HE := Lib.hid HE0
      have CE := Lib.hid (fun W => rset_any d W (by rw [← HE.out]; have := upE_le l N; omega))
      obtain ⟨S2, e2, h2⟩ := strE_two (outS d)
      rw [h2] at HV CE
      clear hb h2 HO HMk HE0 hdd
      go_wp2_with fail
      -- MARK2
      obtain ⟨W1, rfl⟩ : ∃ W1, W1 = wr := ⟨wr, rfl⟩
      go_loopw [6, 7] (fun x6 x7 wq => ∃ (j m : Nat), x7 = .int .i64 (j : Int) ∧ j ≤ N ∧ Hid (m = 2 * (upE l j).length) ∧ wq.ownsRow (w.heap.size + 1) 5 1 x6 m ((setL (upE l j)).map bc) ∧ Below (w.heap.size + 1) W1 wq) (fun _ x7 _ => N - (intOf x7).toNat)
      case atStart => exact ⟨0, 0, rfl, Nat.zero_le _, Lib.hid rfl, ⟨rfl, .inl ⟨rfl, rfl⟩⟩, Below.refl _ _⟩
      case round =>
        obtain ⟨j, m, rfl, hj, HMl, hown, hbel⟩ := hrel
        obtain ⟨va, vc, rfl⟩ := own_len hown
        have HO2 := Lib.hid hown
        have HB2 := Lib.hid hbel
        have hmb : m ≤ 131072 := by have := HMl.out; have := upE_le l j; omega
        have hgs : w.heap.size + 1 ≤ wr.heap.size := Nat.le_trans HG.out hbel.size
        clear hown hbel
        by_cases hlt : j < N
        · have hd : decide ((j : Int) < (N : Int)) = true := decide_eq_true (by omega)
          have hj0' : (0 : Int) ≤ (j : Int) := Int.natCast_nonneg _
          have hj1' : (j : Int) < (N : Int) := by omega
          have c0 := (HB2.out.cell (p := ⟨w.heap.size, j, none⟩) (Nat.lt_succ_self _)).trans (HBits.out j hlt)
          by_cases hin : (j : Int) ∈ l
          · rw [decide_eq_true hin] at c0
            have hjx : j < 65536 := by omega
            obtain ⟨hh, hlo⟩ := hi_conv hjx
            have HT : Hid ((setL (upE l (j + 1))).map bc = (setL (upE l j)).map bc ++ [bc (hiB j), bc (loB j)]) := Lib.hid (by rw [upE_yes hin, setL_app, List.map_append]; rfl)
            have HMl2 : Hid (m + 2 = 2 * (upE l (j + 1)).length) := Lib.hid (by rw [HMl.out, upE_yes hin, List.length_append]; simp only [List.length_cons, List.length_nil]; omega)
            have e8 : bc (hiB j) = .int .u8 ((j : Int) / 256) := by unfold bc; rw [hh]
            have e9 : bc (loB j) = .int .u8 ((j : Int) % 256) := by unfold bc; rw [hlo]
            rw [e8, e9] at HT
            clear e8 e9 hh hlo hin
            go_wp2_with (at_builtin; refine wpList_append_own _ rfl _ _ 81 rfl (w.heap.size + 1) 5 i0 (.int .u8 0) 1 1 Try.underlying81 hi hj0 hj1 hj2 rfl (by decide) _ _ _ rfl (HO2.out.alloc _) ⟨wr.heap.size, 0, none⟩ 2 2 [.int .u8 ((j : Int) / 256), .int .u8 ((j : Int) % 256)] rfl rfl (new_cells2 wr _ _ _ _ rfl) (one_ints rfl) (by unfold maxLen; omega) (by omega) (by rw [World.size_alloc]; omega) ?_; intro v' w3 hown' hgrow _; obtain ⟨b3, cb3, rfl⟩ := own_len hown'; have HB3 : Below (w.heap.size + 1) W1 w3 := (HB2.out.alloc hgs _).grown hgrow (by rw [World.size_alloc]; omega) (fun q hq => (HO2.out.lt q hq).1))
            -- MARK3
            exact ⟨⟨j + 1, m + 2, by go_num, by omega, HMl2, by rw [HT.out]; exact hown', HB3⟩, by simp [intOf]; omega⟩
          · rw [decide_eq_false hin] at c0
            have HT := Lib.hid (upE_no hin)
            clear hin
            go_wp2_with fail
            exact ⟨⟨j + 1, m, by go_num, by omega, Lib.hid (by rw [HT.out]; exact HMl.out), by rw [HT.out]; exact HO2.out, HB2.out⟩, by simp [intOf]; omega⟩
        · obtain rfl : j = N := by omega
          have hd : decide ((j : Int) < (j : Int)) = false := decide_eq_false (Int.lt_irrefl _)
          have hcv := conv_own Try.underlying81 Try.underlying5 HO2.out 9 Try.underlying9
          rw [HE.out] at hcv
          have HBE : Hid (Below w.heap.size w wr) := Lib.hid (HB.out.trans (HB2.out.mono (Nat.le_succ _)))
          obtain ⟨S, hS⟩ : ∃ S, str (setL d) = S := ⟨_, rfl⟩
          rw [hS] at hcv CE
          clear hS
          go_wp2_with fail
          refine (CE.out _).mono ?_
          rintro e w3 ⟨rfl, rfl⟩
          go_wp2_with fail
          go_ret2
          exact ⟨by show _ = Ending.returned (strE (ofS l)); rw [HV.out]; rfl, HBE.out⟩
-- MARK9
end Go.Proofs.Ytbkkmcfpjpbhaaa
