/- Ytl: what Ytq want of LnM PlM PlA PlB PlC PlD PlE PlF PlG PlH LawLs. -/
import Derived.Test.YtbmgpenllpbioaaGreatDoorList
import Derived.Lib.Split
import Derived.Lib.TrimByte
import Derived.Lib.IndexMore
import Derived.Lib.IndexBytes
import Derived.Lib.Repeat
import Derived.Deep.RegionWith
import Derived.Deep.QuietTactic
import Derived.BigQuiet
import Derived.Deep.AppendLies
import Derived.Handy
import Derived.Lib.Bytealg
import Derived.Laws.MakeOwn
import Derived.Deep.RegionHeld3
import Derived.Deep.DeepCutAuto
import Derived.Deep.CutBlock
namespace Go.Proofs.YtbmgpenllpbioaaGreatDoor
open Go.PlainAid Go.RowKit

theorem below_drewN (w : World) (n : Nat) : Below w.heap.size w (w.drewN n) := by
  induction n generalizing w with
  | zero => exact Below.refl _ _
  | succ n ih => exact ⟨rfl, rfl, rfl, Nat.le_refl _, fun _ _ => rfl⟩
theorem join_snoc (ts : List (List UInt8)) (t sep : List UInt8) : Lib.join (ts ++ [t]) sep = if ts = [] then t else Lib.join ts sep ++ sep ++ t := by
  induction ts with
  | nil => simp [Lib.join]
  | cons x ts ih =>
    cases ts with
    | nil => simp [Lib.join]
    | cons y ts =>
      rw [if_neg (by simp)]
      have h := ih
      rw [if_neg (by simp)] at h
      simp only [List.cons_append, Lib.join] at h ⊢
      simp [h, List.append_assoc]
theorem join_ne {ts : List (List UInt8)} (h : ts ≠ []) (hn : ∀ t ∈ ts, t ≠ []) : Lib.join ts [44] ≠ [] := by
  cases ts with
  | nil => exact absurd rfl h
  | cons x ts =>
    cases ts with
    | nil => simpa [Lib.join] using hn x (List.mem_cons_self ..)
    | cons y ts => simp [Lib.join]
theorem itoa_ne (a : Int) : Lib.itoa a ≠ [] := by
  intro h
  unfold Lib.itoa at h
  have hd : ∀ n, Lib.decDigits n ≠ [] := fun n hh => by
    rw [Lib.decDigits] at hh
    split at hh
    · cases hh
    · simp at hh
  split at h
  · cases h
  · exact hd _ h
theorem runT_ne (a b : Int) : runT a b ≠ [] := by
  unfold runT; split
  · exact itoa_ne a
  · simp
def RunAt (l : List Int) (p k : Nat) (a b : Int) : Prop := l[k]? = some b ∧ p ≤ k ∧ b = a + ((k - p : Nat) : Int) ∧ runE l p = k + 1 + runN b (l.drop (k + 1))
theorem runAt_start {l : List Int} {p : Nat} {a : Int} (h : l[p]? = some a) : RunAt l p p a a := ⟨h, Nat.le_refl _, by simp, runE_start h⟩
theorem runAt_step {l : List Int} {p k : Nat} {a b c : Int} (h : RunAt l p k a b) (hc : l[k + 1]? = some c) (he : c = b + 1) : RunAt l p (k + 1) a c := by
  obtain ⟨h1, h2, h3, h4⟩ := h
  exact ⟨hc, by omega, by omega, runE_step hc he h4⟩
theorem runAt_stop {l : List Int} {p k : Nat} {a b : Int} (h : RunAt l p k a b) (hs : l.length ≤ k + 1 ∨ ∃ c, l[k + 1]? = some c ∧ c ≠ b + 1) : runE l p = k + 1 := runE_stop h.2.2.2 hs
set_option maxRecDepth 100000 in
set_option maxHeartbeats 6400000 in
theorem rlist_some (g off cap : Nat) (l : List Int) (w : World) (hl : l.length ≤ 1000000) (hg : g < w.heap.size) (hr : ∀ n ∈ l, i64r n)
    (hc : ∀ (j : Nat) (n : Int), l[j]? = some n → w.cell? ⟨g, off + j, none⟩ = some (.int .i64 n)) :
    Calls Tryz.prog 105 #[.slice (some ⟨g, off, none⟩) l.length cap] w (ListV l w) := by
  obtain ⟨n, hn⟩ : ∃ n, l.length = n := ⟨_, rfl⟩
  rw [hn]
  have HN := Lib.hid hn
  by_cases h500 : 500 < l.length
  · have hV := Lib.hid (listS_3 h500)
    have hd : decide ((500 : Int) < (n : Int)) = true := decide_eq_true (by omega)
    clear h500 hn
    go_enter Tryz.func105, Tryz.ntmps105
    go_wp2
    go_ret2
    exact listV_of hV.out rfl (Below.refl _ _)
  · have HC := Lib.hid hc
    have hd : decide ((500 : Int) < (n : Int)) = false := decide_eq_false (by omega)
    have hn5 : n ≤ 500 := by omega
    have H5 := Lib.hid h500
    have HR := Lib.hid hr
    clear hc hn h500 hr hl
    go_enter Tryz.func105, Tryz.ntmps105
    go_wp2
    go_loop [4] (fun i => ∃ k : Nat, k ≤ n ∧ i = .int .i64 k ∧ Hid (noBad l k)) (fun i => n - (intOf i).toNat)
    case atStart => exact ⟨0, Nat.zero_le _, rfl, Lib.hid (fun n hn => by simp at hn)⟩
    case round =>
      obtain ⟨k, hk, rfl, HNO⟩ := hrel
      by_cases hlt : k < n
      · obtain ⟨x, hx⟩ : ∃ x, l[k]? = some x := ⟨_, List.getElem?_eq_getElem (by rw [HN.out]; exact hlt)⟩
        have c0 := HC.out _ _ hx
        by_cases hb : x < 0 ∨ 1000000000 < x
        · have hV := Lib.hid (listS_7 H5.out (bad_yes (List.mem_of_getElem? hx) hb))
          clear hx
          go_wp2
          all_goals first | (exfalso; omega) | (go_ret2; exact listV_of hV.out rfl (Below.refl _ _))
        · have h0 : 0 ≤ x := by omega
          have h1 : x ≤ 1000000000 := by omega
          have HN1 := Lib.hid (noBad_succ HNO.out hx h0 h1)
          clear hx hb
          go_wp2
          all_goals first | (exfalso; omega) | (go_round <;> first | exact ⟨k + 1, by omega, by go_num, HN1⟩ | (simp [intOf]; omega))
      · obtain rfl : k = n := by omega
        have HX : Hid (noBad l l.length) := Lib.hid (by rw [HN.out]; exact HNO.out)
        have HB := Lib.hid (bad_no HX.out)
        clear HNO
        go_wp2
        go_loopw [5] (fun i wr => ∃ j : Nat, i = .int .i64 (j + 1) ∧ Hid (ascTo l j) ∧ j ≤ k ∧ wr.heap = w.heap ∧ Below w.heap.size w wr) (fun i _ => k + 1 - (intOf i).toNat)
        case atStart => exact ⟨0, rfl, Lib.hid (fun i _ _ hi => absurd hi (Nat.not_lt_zero _)), Nat.zero_le _, rfl, Below.refl _ _⟩
        case round =>
          obtain ⟨j, rfl, HAS, hjk, hheap, hbel⟩ := hrel
          have hcc : ∀ (i : Nat) (n : Int), l[i]? = some n → wr.cell? ⟨g, off + i, none⟩ = some (.int .i64 n) := fun i n h => by
            rw [show wr.cell? ⟨g, off + i, none⟩ = w.cell? ⟨g, off + i, none⟩ by simp [World.cell?, hheap]]; exact HC.out i n h
          by_cases hlt2 : j + 1 < k
          · obtain ⟨a, ha⟩ : ∃ a, l[j]? = some a := ⟨_, List.getElem?_eq_getElem (by rw [HN.out]; omega)⟩
            obtain ⟨b, hb⟩ : ∃ b, l[j + 1]? = some b := ⟨_, List.getElem?_eq_getElem (by rw [HN.out]; omega)⟩
            have c0 := hcc _ _ ha
            have c1 := hcc _ _ hb
            have hdl : decide ((j : Int) + 1 < (k : Int)) = true := decide_eq_true (by omega)
            by_cases hab : b ≤ a
            · have hV := Lib.hid (listS_6 H5.out HB.out (asc_no ha hb hab))
              have hge : decide (b ≤ a) = true := decide_eq_true hab
              clear ha hb HAS hcc
              go_wp2
              go_quiet (fail)
              go_wp2
              go_ret2
              exact listV_of hV.out rfl ⟨hbel.os, hbel.tape, hbel.output, hbel.size, hbel.block⟩
            · have hge : decide (b ≤ a) = false := decide_eq_false hab
              have HN2 : Hid (ascTo l (j + 1)) := Lib.hid fun i x y hi hx hy => by
                rcases Nat.lt_succ_iff_lt_or_eq.1 hi with hi | rfl
                · exact HAS.out i x y hi hx hy
                · rw [ha] at hx; rw [hb] at hy; cases hx; cases hy; omega
              clear ha hb HAS hcc
              go_wp2
              go_quiet (fail)
              go_wp2
              exact ⟨⟨j + 1, by go_num, HN2, by omega, hheap, ⟨hbel.os, hbel.tape, hbel.output, hbel.size, hbel.block⟩⟩, by simp [intOf]; omega⟩
          · have hA : ascB l = true := (ascB_at l).2 fun i a b ha hb => HAS.out i a b (by have := (List.getElem?_eq_some_iff.1 hb).1; rw [HN.out] at this; omega) ha hb
            have HAB := Lib.hid hA
            have hdl : decide ((j : Int) + 1 < (k : Int)) = false := decide_eq_false (by omega)
            clear HAS hcc hA
            by_cases h0 : k = 0
            · have hV := Lib.hid (listS_0 (l := l) (List.eq_nil_of_length_eq_zero (by rw [HN.out]; exact h0)))
              go_wp2
              all_goals first | (exfalso; omega) | (go_ret2; exact listV_of hV.out rfl hbel)
            · have hV := Lib.hid (listS_ok H5.out HB.out HAB.out (fun e => h0 (by rw [← HN.out, e]; rfl)))
              have hne : ((k : Int) == 0) = false := by rw [beq_eq_false_iff_ne]; omega
              have CD : Hid (∀ a W, i64r a → Calls Tryz.prog 86 #[.int .i64 a] W fun e w' => e = .returned (.string (str (Lib.itoa a))) ∧ Below W.heap.size W w') := Lib.hid fun a W ha => rdigits_any _ a W (Nat.le_refl _) ha
              clear h0 hheap
              go_wp2
              -- MARK1
              go_loopw [6, 7] (fun x6 x7 wr => ∃ (p : Nat) (ts : List (List UInt8)) (Z : ByteArray), x7 = .int .i64 p ∧ p ≤ k ∧ x6 = .string Z ∧ Hid (Z = str (Lib.join ts [44])) ∧ ts.length ≤ p ∧ Hid (RunsTo l p ts) ∧ Hid (∀ t ∈ ts, t ≠ []) ∧ Below w.heap.size w wr) (fun _ x7 _ => k - (intOf x7).toNat)
              case atStart => exact ⟨0, [], _, rfl, Nat.zero_le _, rfl, Lib.hid rfl, Nat.le_refl _, Lib.hid ⟨⟨l.length, by omega, rfl⟩, fun t ht => by cases ht⟩, Lib.hid (fun t ht => by cases ht), hbel⟩
              case round =>
                obtain ⟨p, ts, Z, rfl, hp, rfl, HZ, htl, HT, HNE, hB2⟩ := hrel
                by_cases hlt : p < k
                · obtain ⟨a, ha⟩ : ∃ a, l[p]? = some a := ⟨_, List.getElem?_eq_getElem (by rw [HN.out]; exact hlt)⟩
                  have hra := HR.out a (List.mem_of_getElem? ha)
                  have HPA := Lib.hid ha
                  have HST0 := Lib.hid (runAt_start ha)
                  clear ha
                  go_wp2_with fail
                  -- MARK2
                  go_loopw [8] (fun x8 wr => ∃ (j : Nat) (b : Int), x8 = .int .i64 j ∧ j < k ∧ Hid (RunAt l p j a b) ∧ Below w.heap.size w wr) (fun x8 _ => k - (intOf x8).toNat)
                  case atStart => exact ⟨p, a, rfl, hlt, HST0, hB2⟩
                  case round =>
                    obtain ⟨j, b, rfl, hj, HRA, hBi⟩ := hrel
                    have hgi : g < wr.heap.size := Nat.lt_of_lt_of_le hg hBi.size
                    have d0 : wr.cell? ⟨g, off + p, none⟩ = some (.int .i64 a) := (hBi.cell (p := ⟨g, off + p, none⟩) hg).trans (HC.out _ _ HPA.out)
                    have d1 : wr.cell? ⟨g, off + j, none⟩ = some (.int .i64 b) := (hBi.cell (p := ⟨g, off + j, none⟩) hg).trans (HC.out _ _ HRA.out.1)
                    have hrb := HR.out b (List.mem_of_getElem? HRA.out.1)
                    have hbx : 0 ≤ b ∧ b ≤ 1000000000 := HX.out b (by rw [List.take_length]; exact List.mem_of_getElem? HRA.out.1)
                    by_cases hgo : j + 1 < k ∧ l[j + 1]? = some (b + 1)
                    · obtain ⟨hj1, hc1⟩ := hgo
                      have d2 : wr.cell? ⟨g, off + (j + 1), none⟩ = some (.int .i64 (b + 1)) := (hBi.cell (p := ⟨g, off + (j + 1), none⟩) hg).trans (HC.out _ _ hc1)
                      have HRA2 := Lib.hid (runAt_step HRA.out hc1 rfl)
                      have hdl : decide ((j : Int) + 1 < (k : Int)) = true := decide_eq_true (by omega)
                      clear hc1
                      go_wp2_with fail
                      go_quiet (fail)
                      go_wp2_with fail
                      exact ⟨⟨j + 1, b + 1, by go_num, hj1, HRA2, hBi.trans ((below_drewN wr _).mono hBi.size)⟩, by simp [intOf]; omega⟩
                    · by_cases hj1 : j + 1 < k
                      · obtain ⟨c, hc1⟩ : ∃ c, l[j + 1]? = some c := ⟨_, List.getElem?_eq_getElem (by rw [HN.out]; exact hj1)⟩
                        have hcb : c ≠ b + 1 := fun e => hgo ⟨hj1, by rw [hc1, e]⟩
                        have d2 : wr.cell? ⟨g, off + (j + 1), none⟩ = some (.int .i64 c) := (hBi.cell (p := ⟨g, off + (j + 1), none⟩) hg).trans (HC.out _ _ hc1)
                        have HST := Lib.hid (runAt_stop HRA.out (.inr ⟨c, hc1, hcb⟩))
                        have hdl : decide ((j : Int) + 1 < (k : Int)) = true := decide_eq_true (by omega)
                        have he : ((c : Int) == b + 1) = false := by rw [beq_eq_false_iff_ne]; exact hcb
                        clear hc1 hcb hgo
                        go_wp2_with fail
                        go_quiet (fail)
                        -- MARK3
                        obtain ⟨w3, hw3⟩ : ∃ w3, w3 = wr.drewN nq := ⟨_, rfl⟩
                        have hb23 : Below wr.heap.size wr w3 := by rw [hw3]; exact below_drewN wr _
                        have hB3 := hBi.trans (hb23.mono hBi.size)
                        have hg3 : g < w3.heap.size := Nat.lt_of_lt_of_le hg hB3.size
                        have e0 : w3.cell? ⟨g, off + p, none⟩ = some (.int .i64 a) := (hb23.cell (p := ⟨g, off + p, none⟩) hgi).trans d0
                        have e1 : w3.cell? ⟨g, off + j, none⟩ = some (.int .i64 b) := (hb23.cell (p := ⟨g, off + j, none⟩) hgi).trans d1
                        rw [← hw3]
                        clear hw3 hb23 d0 d1
                        have HRN : Hid (RunsTo l (j + 1) (ts ++ [runT a b])) := Lib.hid (by
                          have h := runsTo_step HT.out (by rw [HN.out]; exact hlt) HPA.out (b := b) (by rw [HST.out, Nat.add_sub_cancel]; exact HRA.out.1) hra hrb
                          rw [HST.out] at h; exact h)
                        have HNE2 : Hid (∀ t ∈ ts ++ [runT a b], t ≠ []) := Lib.hid fun t ht => by
                          rcases List.mem_append.1 ht with h | h
                          · exact HNE.out t h
                          · rw [List.mem_singleton.1 h]; exact runT_ne a b
                        have hzz : Z.size ≤ 22000 := by
                          rw [HZ.out, str_size]; have h := join_le HT.out.2; omega
                        have hza : (str (Lib.itoa a)).size ≤ 21 := by rw [str_size]; exact Lib.itoa_length_le _ hra.1 hra.2
                        have hzb : (str (Lib.itoa b)).size ≤ 21 := by rw [str_size]; exact Lib.itoa_length_le _ hrb.1 hrb.2
                        have hpj2 : p ≤ j := HRA.out.2.1
                        by_cases hgt : p < j
                        · have HRT : Hid (runT a b = Lib.itoa a ++ [45] ++ Lib.itoa b) := Lib.hid (by unfold runT; rw [if_neg (by have := HRA.out.2.2.1; omega)])
                          have hdg : decide ((p : Int) < (j : Int)) = true := decide_eq_true (by omega)
                          by_cases hts : ts = []
                          · have HTS := Lib.hid hts
                            have hem : Z.toList.isEmpty = true := empty_yes (by rw [HZ.out, hts]; rfl)
                            clear hts
                            have ho1 : ∀ W, (Op.stringOp .add Z (str (Lib.itoa a))).run Tryz.prog W = .ok (.string (Z ++ str (Lib.itoa a))) W := fun W => run_string_add_sum W _ _ (by omega)
                            have ho2 : ∀ W, (Op.stringOp .add (Z ++ str (Lib.itoa a)) ⟨#[45]⟩).run Tryz.prog W = .ok (.string ((Z ++ str (Lib.itoa a)) ++ ⟨#[45]⟩)) W := fun W => run_string_add_sum W _ _ (by rw [ByteArray.size_append]; show Z.size + _ + 1 ≤ _; omega)
                            have ho3 : ∀ W, (Op.stringOp .add ((Z ++ str (Lib.itoa a)) ++ ⟨#[45]⟩) (str (Lib.itoa b))).run Tryz.prog W = .ok (.string (((Z ++ str (Lib.itoa a)) ++ ⟨#[45]⟩) ++ str (Lib.itoa b))) W := fun W => run_string_add_sum W _ _ (by rw [ByteArray.size_append, ByteArray.size_append]; show Z.size + _ + 1 + _ ≤ _; omega)
                            go_wp2_with fail
                            refine (CD.out a _ hra).mono ?_
                            rintro e w4 ⟨rfl, hb4⟩
                            have f1 : w4.cell? ⟨g, off + j, none⟩ = some (.int .i64 b) := (hb4.cell (p := ⟨g, off + j, none⟩) hg3).trans e1
                            go_wp2_with fail
                            refine (CD.out b _ hrb).mono ?_
                            rintro e w5 ⟨rfl, hb5⟩
                            go_wp2_with fail
                            exact ⟨⟨j + 1, ts ++ [runT a b], _, by go_num, by omega, rfl, Lib.hid (by
                              rw [join_snoc, if_pos HTS.out, HRT.out, HZ.out, HTS.out, show (⟨#[45]⟩ : ByteArray) = str [45] from rfl]
                              simp [str_cat, Lib.join]), by rw [List.length_append, List.length_singleton]; omega, HRN, HNE2, ((hB3.trans (hb4.mono hB3.size)).trans (hb5.mono (Nat.le_trans hB3.size hb4.size)))⟩, by simp [intOf]; omega⟩
                          · have HTS : Hid (ts ≠ []) := Lib.hid hts
                            have hem : Z.toList.isEmpty = false := by
                              have hj := join_ne hts HNE.out
                              rw [ByteArray.toList_eq, HZ.out, str_list]
                              cases hq : Lib.join ts [44] with
                              | nil => exact absurd hq hj
                              | cons => rfl
                            clear hts
                            have hoc : ∀ W, (Op.stringOp .add Z ⟨#[44]⟩).run Tryz.prog W = .ok (.string (Z ++ ⟨#[44]⟩)) W := fun W => run_string_add_sum W _ _ (by show Z.size + 1 ≤ _; omega)
                            have ho1 : ∀ W, (Op.stringOp .add (Z ++ ⟨#[44]⟩) (str (Lib.itoa a))).run Tryz.prog W = .ok (.string ((Z ++ ⟨#[44]⟩) ++ str (Lib.itoa a))) W := fun W => run_string_add_sum W _ _ (by rw [ByteArray.size_append]; show Z.size + 1 + _ ≤ _; omega)
                            have ho2 : ∀ W, (Op.stringOp .add ((Z ++ ⟨#[44]⟩) ++ str (Lib.itoa a)) ⟨#[45]⟩).run Tryz.prog W = .ok (.string (((Z ++ ⟨#[44]⟩) ++ str (Lib.itoa a)) ++ ⟨#[45]⟩)) W := fun W => run_string_add_sum W _ _ (by rw [ByteArray.size_append, ByteArray.size_append]; show Z.size + 1 + _ + 1 ≤ _; omega)
                            have ho3 : ∀ W, (Op.stringOp .add (((Z ++ ⟨#[44]⟩) ++ str (Lib.itoa a)) ++ ⟨#[45]⟩) (str (Lib.itoa b))).run Tryz.prog W = .ok (.string ((((Z ++ ⟨#[44]⟩) ++ str (Lib.itoa a)) ++ ⟨#[45]⟩) ++ str (Lib.itoa b))) W := fun W => run_string_add_sum W _ _ (by rw [ByteArray.size_append, ByteArray.size_append, ByteArray.size_append]; show Z.size + 1 + _ + 1 + _ ≤ _; omega)
                            go_wp2_with fail
                            refine (CD.out a _ hra).mono ?_
                            rintro e w4 ⟨rfl, hb4⟩
                            have f1 : w4.cell? ⟨g, off + j, none⟩ = some (.int .i64 b) := (hb4.cell (p := ⟨g, off + j, none⟩) hg3).trans e1
                            go_wp2_with fail
                            refine (CD.out b _ hrb).mono ?_
                            rintro e w5 ⟨rfl, hb5⟩
                            go_wp2_with fail
                            exact ⟨⟨j + 1, ts ++ [runT a b], _, by go_num, by omega, rfl, Lib.hid (by
                              rw [join_snoc, if_neg HTS.out, HRT.out, HZ.out, show (⟨#[44]⟩ : ByteArray) = str [44] from rfl, show (⟨#[45]⟩ : ByteArray) = str [45] from rfl]
                              simp [str_cat, Lib.join]), by rw [List.length_append, List.length_singleton]; omega, HRN, HNE2, ((hB3.trans (hb4.mono hB3.size)).trans (hb5.mono (Nat.le_trans hB3.size hb4.size)))⟩, by simp [intOf]; omega⟩
                        · have hpj : j = p := by have := HRA.out.2.1; omega
                          have hab : b = a := by have := HRA.out.2.2.1; rw [hpj] at this; simpa using this
                          have HRT : Hid (runT a b = Lib.itoa a) := Lib.hid (by unfold runT; rw [if_pos hab.symm])
                          have hdg : decide ((p : Int) < (j : Int)) = false := decide_eq_false (by omega)
                          clear hpj hab
                          by_cases hts : ts = []
                          · have HTS := Lib.hid hts
                            have hem : Z.toList.isEmpty = true := empty_yes (by rw [HZ.out, hts]; rfl)
                            clear hts
                            have ho1 : ∀ W, (Op.stringOp .add Z (str (Lib.itoa a))).run Tryz.prog W = .ok (.string (Z ++ str (Lib.itoa a))) W := fun W => run_string_add_sum W _ _ (by omega)
                            go_wp2_with fail
                            refine (CD.out a _ hra).mono ?_
                            rintro e w4 ⟨rfl, hb4⟩
                            go_wp2_with fail
                            exact ⟨⟨j + 1, ts ++ [runT a b], _, by go_num, by omega, rfl, Lib.hid (by
                              rw [join_snoc, if_pos HTS.out, HRT.out, HZ.out, HTS.out]
                              simp [str_cat, Lib.join]), by rw [List.length_append, List.length_singleton]; omega, HRN, HNE2, (hB3.trans (hb4.mono hB3.size))⟩, by simp [intOf]; omega⟩
                          · have HTS : Hid (ts ≠ []) := Lib.hid hts
                            have hem : Z.toList.isEmpty = false := by
                              have hj := join_ne hts HNE.out
                              rw [ByteArray.toList_eq, HZ.out, str_list]
                              cases hq : Lib.join ts [44] with
                              | nil => exact absurd hq hj
                              | cons => rfl
                            clear hts
                            have hoc : ∀ W, (Op.stringOp .add Z ⟨#[44]⟩).run Tryz.prog W = .ok (.string (Z ++ ⟨#[44]⟩)) W := fun W => run_string_add_sum W _ _ (by show Z.size + 1 ≤ _; omega)
                            have ho1 : ∀ W, (Op.stringOp .add (Z ++ ⟨#[44]⟩) (str (Lib.itoa a))).run Tryz.prog W = .ok (.string ((Z ++ ⟨#[44]⟩) ++ str (Lib.itoa a))) W := fun W => run_string_add_sum W _ _ (by rw [ByteArray.size_append]; show Z.size + 1 + _ ≤ _; omega)
                            go_wp2_with fail
                            refine (CD.out a _ hra).mono ?_
                            rintro e w4 ⟨rfl, hb4⟩
                            go_wp2_with fail
                            exact ⟨⟨j + 1, ts ++ [runT a b], _, by go_num, by omega, rfl, Lib.hid (by
                              rw [join_snoc, if_neg HTS.out, HRT.out, HZ.out, show (⟨#[44]⟩ : ByteArray) = str [44] from rfl]
                              simp [str_cat, Lib.join]), by rw [List.length_append, List.length_singleton]; omega, HRN, HNE2, (hB3.trans (hb4.mono hB3.size))⟩, by simp [intOf]; omega⟩
                      · have HST := Lib.hid (runAt_stop HRA.out (.inl (by rw [HN.out]; omega)))
                        have hdl : decide ((j : Int) + 1 < (k : Int)) = false := decide_eq_false (by omega)
                        clear hgo
                        go_wp2_with fail
                        go_quiet (fail)
                        obtain ⟨w3, hw3⟩ : ∃ w3, w3 = wr.drewN nq := ⟨_, rfl⟩
                        have hb23 : Below wr.heap.size wr w3 := by rw [hw3]; exact below_drewN wr _
                        have hB3 := hBi.trans (hb23.mono hBi.size)
                        have hg3 : g < w3.heap.size := Nat.lt_of_lt_of_le hg hB3.size
                        have e0 : w3.cell? ⟨g, off + p, none⟩ = some (.int .i64 a) := (hb23.cell (p := ⟨g, off + p, none⟩) hgi).trans d0
                        have e1 : w3.cell? ⟨g, off + j, none⟩ = some (.int .i64 b) := (hb23.cell (p := ⟨g, off + j, none⟩) hgi).trans d1
                        rw [← hw3]
                        clear hw3 hb23 d0 d1
                        have HRN : Hid (RunsTo l (j + 1) (ts ++ [runT a b])) := Lib.hid (by
                          have h := runsTo_step HT.out (by rw [HN.out]; exact hlt) HPA.out (b := b) (by rw [HST.out, Nat.add_sub_cancel]; exact HRA.out.1) hra hrb
                          rw [HST.out] at h; exact h)
                        have HNE2 : Hid (∀ t ∈ ts ++ [runT a b], t ≠ []) := Lib.hid fun t ht => by
                          rcases List.mem_append.1 ht with h | h
                          · exact HNE.out t h
                          · rw [List.mem_singleton.1 h]; exact runT_ne a b
                        have hzz : Z.size ≤ 22000 := by
                          rw [HZ.out, str_size]; have h := join_le HT.out.2; omega
                        have hza : (str (Lib.itoa a)).size ≤ 21 := by rw [str_size]; exact Lib.itoa_length_le _ hra.1 hra.2
                        have hzb : (str (Lib.itoa b)).size ≤ 21 := by rw [str_size]; exact Lib.itoa_length_le _ hrb.1 hrb.2
                        have hpj2 : p ≤ j := HRA.out.2.1
                        by_cases hgt : p < j
                        · have HRT : Hid (runT a b = Lib.itoa a ++ [45] ++ Lib.itoa b) := Lib.hid (by unfold runT; rw [if_neg (by have := HRA.out.2.2.1; omega)])
                          have hdg : decide ((p : Int) < (j : Int)) = true := decide_eq_true (by omega)
                          by_cases hts : ts = []
                          · have HTS := Lib.hid hts
                            have hem : Z.toList.isEmpty = true := empty_yes (by rw [HZ.out, hts]; rfl)
                            clear hts
                            have ho1 : ∀ W, (Op.stringOp .add Z (str (Lib.itoa a))).run Tryz.prog W = .ok (.string (Z ++ str (Lib.itoa a))) W := fun W => run_string_add_sum W _ _ (by omega)
                            have ho2 : ∀ W, (Op.stringOp .add (Z ++ str (Lib.itoa a)) ⟨#[45]⟩).run Tryz.prog W = .ok (.string ((Z ++ str (Lib.itoa a)) ++ ⟨#[45]⟩)) W := fun W => run_string_add_sum W _ _ (by rw [ByteArray.size_append]; show Z.size + _ + 1 ≤ _; omega)
                            have ho3 : ∀ W, (Op.stringOp .add ((Z ++ str (Lib.itoa a)) ++ ⟨#[45]⟩) (str (Lib.itoa b))).run Tryz.prog W = .ok (.string (((Z ++ str (Lib.itoa a)) ++ ⟨#[45]⟩) ++ str (Lib.itoa b))) W := fun W => run_string_add_sum W _ _ (by rw [ByteArray.size_append, ByteArray.size_append]; show Z.size + _ + 1 + _ ≤ _; omega)
                            go_wp2_with fail
                            refine (CD.out a _ hra).mono ?_
                            rintro e w4 ⟨rfl, hb4⟩
                            have f1 : w4.cell? ⟨g, off + j, none⟩ = some (.int .i64 b) := (hb4.cell (p := ⟨g, off + j, none⟩) hg3).trans e1
                            go_wp2_with fail
                            refine (CD.out b _ hrb).mono ?_
                            rintro e w5 ⟨rfl, hb5⟩
                            go_wp2_with fail
                            exact ⟨⟨j + 1, ts ++ [runT a b], _, by go_num, by omega, rfl, Lib.hid (by
                              rw [join_snoc, if_pos HTS.out, HRT.out, HZ.out, HTS.out, show (⟨#[45]⟩ : ByteArray) = str [45] from rfl]
                              simp [str_cat, Lib.join]), by rw [List.length_append, List.length_singleton]; omega, HRN, HNE2, ((hB3.trans (hb4.mono hB3.size)).trans (hb5.mono (Nat.le_trans hB3.size hb4.size)))⟩, by simp [intOf]; omega⟩
                          · have HTS : Hid (ts ≠ []) := Lib.hid hts
                            have hem : Z.toList.isEmpty = false := by
                              have hj := join_ne hts HNE.out
                              rw [ByteArray.toList_eq, HZ.out, str_list]
                              cases hq : Lib.join ts [44] with
                              | nil => exact absurd hq hj
                              | cons => rfl
                            clear hts
                            have hoc : ∀ W, (Op.stringOp .add Z ⟨#[44]⟩).run Tryz.prog W = .ok (.string (Z ++ ⟨#[44]⟩)) W := fun W => run_string_add_sum W _ _ (by show Z.size + 1 ≤ _; omega)
                            have ho1 : ∀ W, (Op.stringOp .add (Z ++ ⟨#[44]⟩) (str (Lib.itoa a))).run Tryz.prog W = .ok (.string ((Z ++ ⟨#[44]⟩) ++ str (Lib.itoa a))) W := fun W => run_string_add_sum W _ _ (by rw [ByteArray.size_append]; show Z.size + 1 + _ ≤ _; omega)
                            have ho2 : ∀ W, (Op.stringOp .add ((Z ++ ⟨#[44]⟩) ++ str (Lib.itoa a)) ⟨#[45]⟩).run Tryz.prog W = .ok (.string (((Z ++ ⟨#[44]⟩) ++ str (Lib.itoa a)) ++ ⟨#[45]⟩)) W := fun W => run_string_add_sum W _ _ (by rw [ByteArray.size_append, ByteArray.size_append]; show Z.size + 1 + _ + 1 ≤ _; omega)
                            have ho3 : ∀ W, (Op.stringOp .add (((Z ++ ⟨#[44]⟩) ++ str (Lib.itoa a)) ++ ⟨#[45]⟩) (str (Lib.itoa b))).run Tryz.prog W = .ok (.string ((((Z ++ ⟨#[44]⟩) ++ str (Lib.itoa a)) ++ ⟨#[45]⟩) ++ str (Lib.itoa b))) W := fun W => run_string_add_sum W _ _ (by rw [ByteArray.size_append, ByteArray.size_append, ByteArray.size_append]; show Z.size + 1 + _ + 1 + _ ≤ _; omega)
                            go_wp2_with fail
                            refine (CD.out a _ hra).mono ?_
                            rintro e w4 ⟨rfl, hb4⟩
                            have f1 : w4.cell? ⟨g, off + j, none⟩ = some (.int .i64 b) := (hb4.cell (p := ⟨g, off + j, none⟩) hg3).trans e1
                            go_wp2_with fail
                            refine (CD.out b _ hrb).mono ?_
                            rintro e w5 ⟨rfl, hb5⟩
                            go_wp2_with fail
                            exact ⟨⟨j + 1, ts ++ [runT a b], _, by go_num, by omega, rfl, Lib.hid (by
                              rw [join_snoc, if_neg HTS.out, HRT.out, HZ.out, show (⟨#[44]⟩ : ByteArray) = str [44] from rfl, show (⟨#[45]⟩ : ByteArray) = str [45] from rfl]
                              simp [str_cat, Lib.join]), by rw [List.length_append, List.length_singleton]; omega, HRN, HNE2, ((hB3.trans (hb4.mono hB3.size)).trans (hb5.mono (Nat.le_trans hB3.size hb4.size)))⟩, by simp [intOf]; omega⟩
                        · have hpj : j = p := by have := HRA.out.2.1; omega
                          have hab : b = a := by have := HRA.out.2.2.1; rw [hpj] at this; simpa using this
                          have HRT : Hid (runT a b = Lib.itoa a) := Lib.hid (by unfold runT; rw [if_pos hab.symm])
                          have hdg : decide ((p : Int) < (j : Int)) = false := decide_eq_false (by omega)
                          clear hpj hab
                          by_cases hts : ts = []
                          · have HTS := Lib.hid hts
                            have hem : Z.toList.isEmpty = true := empty_yes (by rw [HZ.out, hts]; rfl)
                            clear hts
                            have ho1 : ∀ W, (Op.stringOp .add Z (str (Lib.itoa a))).run Tryz.prog W = .ok (.string (Z ++ str (Lib.itoa a))) W := fun W => run_string_add_sum W _ _ (by omega)
                            go_wp2_with fail
                            refine (CD.out a _ hra).mono ?_
                            rintro e w4 ⟨rfl, hb4⟩
                            go_wp2_with fail
                            exact ⟨⟨j + 1, ts ++ [runT a b], _, by go_num, by omega, rfl, Lib.hid (by
                              rw [join_snoc, if_pos HTS.out, HRT.out, HZ.out, HTS.out]
                              simp [str_cat, Lib.join]), by rw [List.length_append, List.length_singleton]; omega, HRN, HNE2, (hB3.trans (hb4.mono hB3.size))⟩, by simp [intOf]; omega⟩
                          · have HTS : Hid (ts ≠ []) := Lib.hid hts
                            have hem : Z.toList.isEmpty = false := by
                              have hj := join_ne hts HNE.out
                              rw [ByteArray.toList_eq, HZ.out, str_list]
                              cases hq : Lib.join ts [44] with
                              | nil => exact absurd hq hj
                              | cons => rfl
                            clear hts
                            have hoc : ∀ W, (Op.stringOp .add Z ⟨#[44]⟩).run Tryz.prog W = .ok (.string (Z ++ ⟨#[44]⟩)) W := fun W => run_string_add_sum W _ _ (by show Z.size + 1 ≤ _; omega)
                            have ho1 : ∀ W, (Op.stringOp .add (Z ++ ⟨#[44]⟩) (str (Lib.itoa a))).run Tryz.prog W = .ok (.string ((Z ++ ⟨#[44]⟩) ++ str (Lib.itoa a))) W := fun W => run_string_add_sum W _ _ (by rw [ByteArray.size_append]; show Z.size + 1 + _ ≤ _; omega)
                            go_wp2_with fail
                            refine (CD.out a _ hra).mono ?_
                            rintro e w4 ⟨rfl, hb4⟩
                            go_wp2_with fail
                            exact ⟨⟨j + 1, ts ++ [runT a b], _, by go_num, by omega, rfl, Lib.hid (by
                              rw [join_snoc, if_neg HTS.out, HRT.out, HZ.out, show (⟨#[44]⟩ : ByteArray) = str [44] from rfl]
                              simp [str_cat, Lib.join]), by rw [List.length_append, List.length_singleton]; omega, HRN, HNE2, (hB3.trans (hb4.mono hB3.size))⟩, by simp [intOf]; omega⟩
                · obtain rfl : p = k := by omega
                  have HE := Lib.hid (runsTo_end HT.out (by rw [HN.out]; exact Nat.le_refl _))
                  go_wp2_with fail
                  go_ret2
                  exact listV_of hV.out (by rw [HE.out, HZ.out]) hB2
def IntsArg (W : World) (v : Value) (l : List Int) : Prop := (∃ a c, v = .slice a 0 c ∧ l = []) ∨ IntsAt W v l
set_option maxHeartbeats 800000 in
theorem rlist_none (a : Option Addr) (c : Nat) (w : World) : Calls Tryz.prog 105 #[.slice a 0 c] w (ListV [] w) := by
  have hV := Lib.hid (listS_0 (l := []) rfl)
  go_enter Tryz.func105, Tryz.ntmps105
  go_wp2
  go_loop [4] (fun i => i = .int .i64 0) (fun _ => 0)
  case atStart => rfl
  case round =>
    subst hrel
    go_wp2
    go_loop [5] (fun i => i = .int .i64 1) (fun _ => 0)
    case atStart => rfl
    case round =>
      subst hrel
      go_wp2
      go_ret2
      exact listV_of hV.out rfl (Below.refl _ _)
theorem rlist_arg (v : Value) (l : List Int) (w : World) (h : IntsArg w v l) (hl : l.length ≤ 1000000) (hr : ∀ n ∈ l, i64r n) :
    Calls Tryz.prog 105 #[v] w (ListV l w) := by
  rcases h with ⟨a, c, rfl, rfl⟩ | ⟨rfl, rfl⟩ | ⟨g, off, cap, rfl, hg, hc⟩
  · exact rlist_none a c w
  · exact rlist_none _ _ w
  · exact rlist_some g off cap l w hl hg hr hc
end Go.Proofs.YtbmgpenllpbioaaGreatDoor
