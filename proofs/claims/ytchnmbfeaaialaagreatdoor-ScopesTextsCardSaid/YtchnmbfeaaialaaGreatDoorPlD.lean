/- words.readRun and ends. -/
import Derived.Test.YtchnmbfeaaialaaGreatDoorPlC
namespace Go.Proofs.YtchnmbfeaaialaaGreatDoor
open Go.RowKit Go.PlainAid

theorem natL_mem {l : List UInt8} {c : UInt8} (h : natL l = true) (hc : c ∈ l) : 48 ≤ c.toNat ∧ c.toNat ≤ 57 := by
  unfold natL at h
  rw [Bool.and_eq_true] at h
  have := List.all_eq_true.1 h.2 c hc
  unfold digB at this
  have h2 := of_decide_eq_true this
  omega
theorem natL_no {l : List UInt8} {c : UInt8} (hc : c ∈ l) (h : ¬ (48 ≤ c.toNat ∧ c.toNat ≤ 57)) : natL l = false := by
  cases hx : natL l with
  | false => rfl
  | true => exact absurd (natL_mem hx hc) h
theorem runV_one {T : List UInt8} (h : (45 : UInt8) ∉ T) : runV T = if natL T then some (T, T) else none := by
  unfold runV; rw [cutF_no h]; rfl
theorem runV_two {a t : List UInt8} (h : (45 : UInt8) ∉ a) : runV (a ++ 45 :: t) = if natL a && natL t && lessL a t then some (a, t) else none := by
  unfold runV
  rw [cutF_first h, List.nil_append]
  by_cases ht : (45 : UInt8) ∈ t
  · obtain ⟨b, u, rfl, h2, _⟩ := cut_mem ht
    rw [cutF_first h2]
    obtain ⟨x, xs, hx⟩ : ∃ x xs, cutF 45 [] u = x :: xs := by
      cases hq : cutF 45 [] u with
      | nil => have := (cutF_len (c := 45) (l := u) (cur := [])).1; rw [hq] at this; simp at this
      | cons x xs => exact ⟨x, xs, rfl⟩
    rw [hx]
    have : natL (b ++ 45 :: u) = false := natL_no ht (by decide)
    simp [this]
  · rw [cutF_no ht]; rfl
theorem cut_none {T : List UInt8} (h : (45 : UInt8) ∉ T) : Lib.cut T [45] = (T, [], false) := by
  unfold Lib.cut; rw [Lib.index_one, idx_no h]; rfl
theorem cut_some {a t : List UInt8} (h : (45 : UInt8) ∉ a) : Lib.cut (a ++ 45 :: t) [45] = (a, t, true) := by
  obtain ⟨a', t', h1, h2, h3⟩ := cut_mem (c := 45) (l := a ++ 45 :: t) (by simp)
  have e : Lib.indexByte (a ++ 45 :: t) 45 = (a.length : Int) := by
    clear h1 h2 h3
    induction a with
    | nil => simp [Lib.indexByte]
    | cons x a ih =>
      have hx : ¬ x = 45 := fun e => h (by rw [e]; exact List.mem_cons_self ..)
      rw [List.cons_append]
      unfold Lib.indexByte
      rw [if_neg (by simpa using hx), ih (fun e => h (List.mem_cons_of_mem _ e)), if_neg (by first | (simp; done) | (simp; omega))]
      rfl
  unfold Lib.cut
  rw [Lib.index_one, e, if_pos (by omega)]
  have e1 : ((a.length : Int).toNat) = a.length := by omega
  rw [e1, List.take_left' rfl, show a ++ 45 :: t = (a ++ [45]) ++ t by simp, show a.length + [(45 : UInt8)].length = (a ++ [45]).length by simp, List.drop_left' rfl]

/-- The variable MaxLen holds some number. -/
def MaxIs (w : World) : Prop := ∃ m, w.cell? ⟨0, 0, none⟩ = some (.int .i64 m)
theorem MaxIs.lt {w : World} (h : MaxIs w) : 0 < w.heap.size := by
  obtain ⟨m, h⟩ := h
  exact World.block_lt_of_cell? w ⟨0, 0, none⟩ h
theorem MaxIs.below {w w' : World} (h : MaxIs w) (hb : Below w.heap.size w w') : MaxIs w' := by
  have hl := h.lt
  obtain ⟨m, h⟩ := h
  exact ⟨m, (hb.cell (p := ⟨0, 0, none⟩) hl).trans h⟩
theorem below_drewN (w : World) (n : Nat) : Below w.heap.size w (w.drewN n) := by
  induction n generalizing w with
  | zero => exact Below.refl _ _
  | succ n ih => exact ⟨rfl, rfl, rfl, Nat.le_refl _, fun _ _ => rfl⟩

/-- A run as it lies in cells. -/
def rnV (a b : List UInt8) : Value := .agg #[.string (str a), .string (str b)]
/-- What readRun returns. -/
def RnOut (T : List UInt8) (w : World) (e : Ending) (w' : World) : Prop :=
  ∃ (a b : List UInt8) (ok : Bool), e = .returned (.tuple #[rnV a b, .bool ok]) ∧ runV T = (if ok then some (a, b) else none) ∧ Below w.heap.size w w'

theorem rn_ret {T a b : List UInt8} {ok : Bool} {w w1 : World} {tmps : Array Value} (hb1 : Below (w.alloc (.cells #[.string ⟨#[]⟩, .string ⟨#[]⟩] 56)).heap.size (w.alloc (.cells #[.string ⟨#[]⟩, .string ⟨#[]⟩] 56)) w1)
    (hV : runV T = (if ok then some (a, b) else none)) (h2 : tmps[2]?.getD undef = .pointer (some ⟨w.heap.size, 0, none⟩)) (h3 : tmps[3]?.getD undef = .bool ok) :
    bodyPost Tryz.prog Tryz.f59 (RnOut T w) .ret { tmps := tmps, defers := [] } ((w1.setCell ⟨w.heap.size, 0, none⟩ (.string (str a))).setCell ⟨w.heap.size, 1, none⟩ (.string (str b))) := by
  have hc0 : ∀ o, w1.cell? ⟨w.heap.size, o, none⟩ = (w.alloc (.cells #[.string ⟨#[]⟩, .string ⟨#[]⟩] 56)).cell? ⟨w.heap.size, o, none⟩ := cell_at hb1 w.heap.size (by simp)
  have hs0 : ((w1.setCell ⟨w.heap.size, 0, none⟩ (.string (str a))).setCell ⟨w.heap.size, 1, none⟩ (.string (str b))).cell? ⟨w.heap.size, 0, none⟩ = some (.string (str a)) := by
    rw [World.cell?_setCell_other _ _ _ _ (by simp)]; exact World.cell?_setCell_same' _ _ _ (by rw [hc0]; simp)
  have hs1 : ((w1.setCell ⟨w.heap.size, 0, none⟩ (.string (str a))).setCell ⟨w.heap.size, 1, none⟩ (.string (str b))).cell? ⟨w.heap.size, 1, none⟩ = some (.string (str b)) := World.cell?_setCell_same' _ _ _ (by
    rw [World.cell?_setCell_other _ _ _ _ (by simp), hc0]; simp)
  refine bodyPost_ret (v := .tuple #[.agg #[.string (str a), .string (str b)], .bool ok]) (by simp [results, Tryz.results59, go_sem, h2, h3, hs0, hs1]) rfl ⟨a, b, ok, rfl, hV, ?_⟩
  exact (((Below.refl _ _).alloc (Nat.le_refl _) _).trans (hb1.mono (by simp))).setCell (by simp) _ |>.setCell (by simp) _

set_option maxRecDepth 50000 in
set_option maxHeartbeats 1600000 in
theorem readRun_any (T : List UInt8) (w : World) (hT : T.length ≤ 100000) (hm : MaxIs w) : Calls Tryz.prog 59 #[.string (str T)] w (RnOut T w) := by
  have HM : Hid (∀ W, Below w.heap.size w W → MaxIs W) := Lib.hid fun W hb => hm.below hb
  have hsz := str_size T
  have CN : Hid (∀ (a : List UInt8) W, a.length ≤ 100000 → Calls Tryz.prog 80 #[.string (str a)] W fun e w' => e = .returned (.bool (natL a)) ∧ W = w') := Lib.hid fun a W ha => by
    have h := natural_any (str a) W (by rw [str_size]; unfold maxLen; omega)
    rw [natB_list, str_list] at h; exact h
  have CG : Hid (∀ (a b : List UInt8) W, Calls Tryz.prog 39 #[.string (str a), .string (str b)] W fun e w' => e = .returned (.bool (lessL b a)) ∧ w' = W) := Lib.hid fun a b W => greater_any a b W
  have CC : Hid (∀ W, MaxIs W → Calls Tryz.prog 79 #[.string (str T), .string ⟨#[45]⟩] W fun e w' => e = .returned (.tuple #[.string (str (Lib.cut T [45]).1), .string (str (Lib.cut T [45]).2.1), .bool (Lib.cut T [45]).2.2]) ∧ Below W.heap.size W w') := Lib.hid fun W hmW => by
    obtain ⟨m, hmW⟩ := hmW
    refine (Tryz.strings_Cut (str T) ⟨#[45]⟩ m W (by rw [str_size]; omega) hmW).mono ?_
    rintro e w' ⟨h1, n, rfl⟩
    exact ⟨h1, below_drewN _ _⟩
  by_cases h45 : (45 : UInt8) ∈ T
  · obtain ⟨a, t, rfl, ha, _⟩ := cut_mem h45
    rw [cut_some ha] at CC
    have HV := Lib.hid (runV_two (t := t) ha)
    have hla : a.length ≤ 100000 := by simp at hT; omega
    have hlt0 : t.length ≤ 100000 := by simp at hT; omega
    obtain ⟨S, hS⟩ : ∃ S, str (a ++ 45 :: t) = S := ⟨_, rfl⟩
    rw [hS] at CC ⊢
    clear hS h45 ha hsz hm hT
    cases hna : natL a <;> cases hnt : natL t <;> cases hlt : lessL a t <;> (
      rw [hna, hnt, hlt] at HV
      go_enter Tryz.func59, Tryz.ntmps59
      go_wp2_with (first
        | (go_at_call 79; refine (CC.out _ (HM.out _ ((Below.refl _ _).alloc (Nat.le_refl _) _))).mono ?_; rintro e w1 ⟨rfl, hb1⟩; have hk0 := cell_at hb1 w.heap.size (by simp); have hk1 := frozen_at hb1 w.heap.size (by simp))
        | (go_at_call 80; refine (CN.out _ _ (by assumption)).mono ?_; rintro e w2 ⟨rfl, rfl⟩)
        | (go_at_call 39; refine (CG.out _ _ _).mono ?_; rintro e w3 ⟨rfl, rfl⟩))
      all_goals exact rn_ret hb1 (by first | exact HV.out | (rw [HV.out]; rfl)) rfl rfl)
  · rw [cut_none h45] at CC
    have HV := Lib.hid (runV_one h45)
    obtain ⟨n, hn⟩ : ∃ n, T.length = n := ⟨_, rfl⟩
    clear hsz hm h45 hn
    cases hna : natL T <;> (
      rw [hna] at HV
      go_enter Tryz.func59, Tryz.ntmps59
      go_wp2_with (first
        | (go_at_call 79; refine (CC.out _ (HM.out _ ((Below.refl _ _).alloc (Nat.le_refl _) _))).mono ?_; rintro e w1 ⟨rfl, hb1⟩; have hk0 := cell_at hb1 w.heap.size (by simp); have hk1 := frozen_at hb1 w.heap.size (by simp))
        | (go_at_call 80; refine (CN.out _ _ (by assumption)).mono ?_; rintro e w2 ⟨rfl, rfl⟩))
      all_goals exact rn_ret hb1 (by first | exact HV.out | (rw [HV.out]; rfl)) rfl rfl)

/-- What ends returns. -/
theorem ends_any (a b : List UInt8) (w : World) (ha : a.length ≤ 100000) (hb : b.length ≤ 100000) (hr : RangeIs w) (hrl : 3 < w.heap.size) :
    Calls Tryz.prog 41 #[rnV a b] w fun e w' => e = .returned (.tuple #[.int .i64 (numV a), .int .i64 (numV b)]) ∧ Below w.heap.size w w' := by
  have HR : Hid (∀ W, Below w.heap.size w W → RangeIs W) := Lib.hid fun W hb => range_below hr hb hrl
  have CI : Hid (∀ (x : List UInt8) W, x.length ≤ 100000 → Below w.heap.size w W → Calls Tryz.prog 62 #[.string (str x), .int .i64 0, .int .i64 1000000000] W fun e w' => (∃ c, e = .returned (.tuple #[.int .i64 (numV x), .int .i64 c])) ∧ Below W.heap.size W w') := Lib.hid fun x W hx hbW => by
    refine (int_any (str x) 0 1000000000 W (by rw [str_size]; omega) (HR.out W hbW)).mono ?_
    rintro e w' ⟨h1, h2⟩
    rw [str_list] at h1
    exact ⟨⟨_, h1⟩, h2⟩
  have hwa : IntKind.i64.wrap (numV a) = numV a := IntWalk.i64_in _ ⟨by have := numV_range a; omega, by have := numV_range a; omega⟩
  have hwb : IntKind.i64.wrap (numV b) = numV b := IntWalk.i64_in _ ⟨by have := numV_range b; omega, by have := numV_range b; omega⟩
  clear hr
  unfold rnV
  go_enter Tryz.func41, Tryz.ntmps41
  go_wp2_with fail
  refine (CI.out a _ ha ((Below.refl _ _).alloc (Nat.le_refl _) _)).mono ?_
  rintro e w1 ⟨⟨c1, rfl⟩, hb1⟩
  have hB1 : Below w.heap.size w w1 := ((Below.refl _ _).alloc (Nat.le_refl _) _).trans (hb1.mono (by simp))
  have hk := cell_at hb1 w.heap.size (by simp) 1
  go_wp2_with fail
  refine (CI.out b _ hb hB1).mono ?_
  rintro e w2 ⟨⟨c2, rfl⟩, hb2⟩
  go_wp2_with fail
  go_returns
  exact ⟨rfl, hB1.trans (hb2.mono hB1.size)⟩
end Go.Proofs.YtchnmbfeaaialaaGreatDoor
