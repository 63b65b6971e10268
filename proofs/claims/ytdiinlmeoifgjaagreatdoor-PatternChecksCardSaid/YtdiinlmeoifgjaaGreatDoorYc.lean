/- The lists that a node is in: count. -/
import Derived.Test.YtdiinlmeoifgjaaGreatDoorHr
import Derived.Lib.OthersKept
import Derived.Lib.OwnKind
import Derived.Deep.RegionHeld3
import Derived.Laws.OwnMore
namespace Go.Proofs.YtdiinlmeoifgjaaGreatDoor
open Go.RowKit Go.PlainAid

/-- A box whose first cell holds the lists a. -/
def LsBox (ty : TypeId) (B base : Nat) (rest : List Value) (a : List Nat) (W : World) : Prop :=
  ∃ v, W.heap[B]? = some (.cells (v :: rest).toArray ty (0, 0)) ∧ W.ownsRow base 3 1 v a.length (stV a)
theorem set_head {W : World} {B : Nat} {v : Value} {rest : List Value} {ty : TypeId} (v' : Value) (h : W.heap[B]? = some (.cells (v :: rest).toArray ty (0, 0))) : (W.setCell ⟨B, 0, none⟩ v').heap[B]? = some (.cells (v' :: rest).toArray ty (0, 0)) := by
  simp [World.setCell, Array.getElem?_modify, h]
theorem head_facts {W : World} {B : Nat} {v : Value} {rest : List Value} {ty : TypeId} (h : W.heap[B]? = some (.cells (v :: rest).toArray ty (0, 0))) : W.cell? ⟨B, 0, none⟩ = some v ∧ W.frozen? ⟨B, 0, none⟩ = false := by
  constructor <;> simp [World.cell?, World.frozen?, h]
theorem own_ne {W : World} {B base n z : Nat} {v : Value} {e ty : TypeId} {xs : List Value} {cs : Array Value} {fr : Nat × Nat} (h : W.heap[B]? = some (.cells cs ty fr)) (ho : W.ownsRow base e z v n xs) (ht : ty ≠ e) : ∀ g, v.ownBlock = some g → g ≠ B := by
  intro g hg e'
  obtain ⟨c, fz, h2⟩ := Lib.ownsRow_kind ho g hg
  rw [e', h] at h2
  have h3 := Option.some.inj h2
  injection h3 with _ h4 _
  exact ht h4
theorem own_setO {w : World} {B n z k i : Nat} {e : TypeId} {v x : Value} {xs : List Value} (h : w.ownsRow B e z v n xs) (hk : ∀ g, v.ownBlock = some g → g ≠ k) : (w.setCell ⟨k, i, none⟩ x).ownsRow B e z v n xs := by
  obtain ⟨h1, h2⟩ := h
  refine ⟨h1, ?_⟩
  rcases h2 with h2 | ⟨g, cap, cur, rfl, hg, hc, r⟩
  · exact .inl h2
  · exact .inr ⟨g, cap, cur, rfl, hg, (Below.heap_setCell _ _ _ _ (hk g rfl)).trans hc, r⟩
theorem kept_set {W : World} {e : TypeId} {b : Option Nat} {g i : Nat} {x : Value} (h : ∃ c fz, W.heap[g]? = some (.cells c e fz)) : Lib.OthersKept e b W (W.setCell ⟨g, i, none⟩ x) := by
  intro k o hk _ hx
  rw [Below.heap_setCell _ _ _ _ (fun e' => by
    obtain ⟨c, fz, hc⟩ := h
    have e'' : k = g := e'
    rw [e'', hc] at hk
    exact hx c fz (Option.some.inj hk).symm)]
  exact hk
theorem stV_get {l : List Nat} {j x : Nat} (h : l[j]? = some x) : (stV l)[l.length - 1 - j]? = some (.int .i64 (x : Int)) := by
  have hj := (List.getElem?_eq_some_iff.1 h).1
  unfold stV
  rw [List.getElem?_map, List.getElem?_reverse (by omega), show l.length - 1 - (l.length - 1 - j) = j by omega, h]; rfl
theorem stV_drop (l : List Nat) (j : Nat) : (stV l).take (l.length - j) = stV (l.drop j) := by
  unfold stV
  rw [← List.map_take]
  congr 1
  have h2 : l.reverse = (l.drop j).reverse ++ (l.take j).reverse := by rw [← List.reverse_append, List.take_append_drop]
  rw [h2, List.take_left' (by rw [List.length_reverse, List.length_drop])]
def cntAV (k : Nat) (a : List Nat) : Int := if k = 0 then (a.length : Int) - ((cntA 0 a).length : Int) else 0
/-- What count keeps. -/
def CntK (B base : Nat) (W w' : World) : Prop := Lib.OthersKept 3 (some B) W w' ∧ ∀ B0, B0 ≤ B → B0 ≤ base → Below B0 W w'
theorem cnt_push {ty : TypeId} (hty : ty ≠ 3) {B base k : Nat} {rest : List Value} {a : List Nat} {W W1 W' w3 : World} {v v' : Value} {o : Obj} (hk0 : k ≠ 0)
    (hK : CntK B base W W1) (hbs : base ≤ W1.heap.size) (hb : W1.heap[B]? = some (.cells (v :: rest).toArray ty (0, 0))) (ho : W1.ownsRow base 3 1 v a.length (stV (decT a)))
    (hown3 : w3.ownsRow base 3 1 v' (a.length + 1) (stV (decT a) ++ [.int .i64 (k : Int)])) (hgrow3 : (W1.alloc o).grownBy w3 v.ownBlock) (hW' : W' = w3.setCell ⟨B, 0, none⟩ v') :
    LsBox ty B base rest (cntA k a) W' ∧ CntK B base W W' := by
  subst hW'
  have hne := own_ne hb ho hty
  have hlt := (Array.getElem?_eq_some_iff.1 hb).1
  have hb3 : w3.heap[B]? = some (.cells (v :: rest).toArray ty (0, 0)) := (hgrow3.block B (by rw [World.size_alloc]; omega) (fun e => hne B e.symm rfl)).trans ((Below.heap_alloc _ _ _ hlt).trans hb)
  have hne3 := own_ne hb3 hown3 hty
  have e : cntA k a = k :: decT a := by unfold cntA; rw [if_neg hk0]
  refine ⟨⟨v', set_head _ hb3, ?_⟩, ?_⟩
  · rw [e, List.length_cons, decT_len, stV_cons]
    exact own_setO hown3 hne3
  · obtain ⟨k1, k2⟩ := hK
    refine ⟨((k1.alloc o).grown hgrow3 (fun g hg => ?_)).setCell ⟨B, 0, none⟩ rfl _, fun B0 h1 h2 => ?_⟩
    · obtain ⟨c, fz, h⟩ := Lib.ownsRow_kind ho g hg
      exact ⟨c, fz, (Below.heap_alloc _ _ _ (Array.getElem?_eq_some_iff.1 h).1).trans h⟩
    · exact ((((k2 B0 h1 h2).alloc (by omega) o).grown hgrow3 (by rw [World.size_alloc]; omega) (fun g hg => by have := (ho.lt g hg).1; omega))).setCell (by show B0 ≤ B; exact h1) _
theorem push_box {ty : TypeId} (hty : ty ≠ 3) {B base n : Nat} {xs : List Value} {rest : List Value} {W1 w3 : World} {v : Value} {o : Obj} (hb : W1.heap[B]? = some (.cells (v :: rest).toArray ty (0, 0))) (ho : W1.ownsRow base 3 1 v n xs) (hgrow3 : (W1.alloc o).grownBy w3 v.ownBlock) :
    w3.cell? ⟨B, 0, none⟩ = some v ∧ w3.frozen? ⟨B, 0, none⟩ = false := by
  have hne := own_ne hb ho hty
  have hlt := (Array.getElem?_eq_some_iff.1 hb).1
  exact head_facts ((hgrow3.block B (by rw [World.size_alloc]; omega) (fun e => hne B e.symm rfl)).trans ((Below.heap_alloc _ _ _ hlt).trans hb))
set_option maxRecDepth 50000 in
set_option maxHeartbeats 3200000 in
theorem count_any (ty : TypeId) (hty : ty ≠ 3) (B base k : Nat) (rest : List Value) (a : List Nat) (W : World) (h : LsBox ty B base rest a W) (hbs : base ≤ W.heap.size) (hk : k ≤ 9223372036854775807) (hs : StB a) (hl : a.length ≤ 5000) (ht : topN a) :
    Calls Tryz.prog 56 #[.pointer (some ⟨B, 0, none⟩), .int .i64 (k : Int)] W fun e w' => e = .returned (.int .i64 (cntAV k a)) ∧ Hid (LsBox ty B base rest (cntA k a) w') ∧ CntK B base W w' := by
  obtain ⟨v, hb, ho⟩ := h
  have hne := own_ne hb ho hty
  obtain ⟨c0, f0⟩ := head_facts hb
  have hBlt := (Array.getElem?_eq_some_iff.1 hb).1
  obtain ⟨i0, hi, hj0, hj1, hj2⟩ := info_parts2 infoSk
  by_cases hk0 : k = 0
  · subst hk0
    have hd0 : decide ((0 : Int) < ((0 : Nat) : Int)) = false := rfl
    cases a with
    | nil =>
      have HV : Hid (cntAV 0 [] = 0 ∧ cntA 0 [] = []) := Lib.hid ⟨rfl, rfl⟩
      rcases own_form ho with ⟨rfl, _⟩ | ⟨g, c, rfl, hg, hg2⟩
      all_goals
        have HB := Lib.hid (fun v' => set_head v' hb)
        have HK := Lib.hid (fun v' => (Lib.OthersKept.refl 3 (some B) W).setCell ⟨B, 0, none⟩ rfl v')
        have HO := Lib.hid (fun v' => own_setO (k := B) (i := 0) (x := v') ho hne)
        clear hb ho hne
        go_enter Tryz.func56, Tryz.ntmps56
        go_wp2_with fail
        -- MARK1
        go_loop [6] (fun x6 => x6 = .int .i64 (-1)) (fun _ => 0)
        case atStart => rfl
        case round =>
          subst hrel
          go_wp2_with fail
          -- MARK2
          go_ret
          exact ⟨by rw [HV.out.1]; rfl, Lib.hid ⟨_, HB.out _, by rw [HV.out.2]; exact HO.out _⟩, HK.out _, fun B0 h1 _ => (Below.refl B0 W).setCell (by show B0 ≤ B; exact h1) _⟩
    | cons q r =>
      have hq : q ≠ 0 := ht q rfl
      obtain ⟨m, hm⟩ : ∃ m, r.length = m := ⟨_, rfl⟩
      have hqb := hs q (by simp)
      have hwq : wrap64 ((q : Int) - 1) = (q : Int) - 1 := (by unfold wrap64; omega)
      have hqq : ((q - 1 : Nat) : Int) = (q : Int) - 1 := by omega
      rcases own_form ho with ⟨_, h00⟩ | ⟨g, c, rfl, hg, hg2⟩
      · simp at h00
      have hgB : g ≠ B := hne g rfl
      have hnc := (own_cap ho).1
      rw [List.length_cons, hm] at ho hnc hl
      have d0 : W.cell? ⟨g, m, none⟩ = some (.int .i64 (q : Int)) := own_cell ho (by rw [← hm]; exact stV_top q r)
      have f1 : W.frozen? ⟨g, m, none⟩ = false := ho.frozenAt m
      obtain ⟨W1, hW1⟩ : ∃ W1, W1 = W.setCell ⟨g, m, none⟩ (.int .i64 ((q : Int) - 1)) := ⟨_, rfl⟩
      have HO1 : Hid (W1.ownsRow base 3 1 (.slice (some ⟨g, 0, none⟩) (m + 1) c) (m + 1) (stV ((q - 1) :: r))) := Lib.hid (by
        have h1 := (ho.stored m (.int .i64 ((q : Int) - 1))).1
        rw [← hm, ← hqq, stV_set, hm, hqq, ← hW1] at h1; exact h1)
      have hb1 : W1.heap[B]? = some (.cells (.slice (some ⟨g, 0, none⟩) (m + 1) c :: rest).toArray ty (0, 0)) := by
        rw [hW1]; rw [List.length_cons, hm] at hb; exact (Below.heap_setCell _ _ _ _ (by exact fun e => hgB e.symm)).trans hb
      rw [List.length_cons, hm] at c0
      obtain ⟨c1, f2⟩ := head_facts hb1
      have HK1 : Hid (Lib.OthersKept 3 (some B) W W1) := Lib.hid (by rw [hW1]; exact kept_set (Lib.ownsRow_kind ho g rfl))
      have HZ : Hid (∀ B0, B0 ≤ base → Below B0 W W1) := Lib.hid (fun B0 h2 => by rw [hW1]; exact (Below.refl B0 W).setCell (by show B0 ≤ g; omega) _)
      have HB1 := Lib.hid (fun v' => set_head v' hb1)
      obtain ⟨j, hj, hpj, hz1, hz2⟩ := popZ_drop ((q - 1) :: r)
      have hlen : ((q - 1) :: r).length = m + 1 := by rw [List.length_cons, hm]
      rw [hlen] at hj
      obtain ⟨D, hD⟩ : ∃ D, m + 1 - j = D := ⟨_, rfl⟩
      have hcn : cntA 0 (q :: r) = ((q - 1) :: r).drop j := by unfold cntA; rw [if_pos rfl]; exact hpj
      have HCN : Hid (cntA 0 (q :: r) = ((q - 1) :: r).drop j ∧ (cntA 0 (q :: r)).length = D) := Lib.hid ⟨hcn, by rw [hcn, List.length_drop, hlen]; exact hD⟩
      have HRet : Hid (cntAV 0 (q :: r) = ((m : Int) + 1) - (D : Int)) := Lib.hid (by unfold cntAV; rw [if_pos rfl, HCN.out.2, List.length_cons, hm]; rfl)
      have HCut : Hid (W1.ownsRow base 3 1 (.slice (some ⟨g, 0, none⟩) D c) D (stV (((q - 1) :: r).drop j))) := Lib.hid (by
        have := own_cut HO1.out (m := D) (by omega)
        rw [← hD, ← hlen, stV_drop, hlen, hD] at this; exact this)
      have HZe : Hid (∀ d : Nat, D ≤ d → d < m + 1 → W1.cell? ⟨g, d, none⟩ = some (.int .i64 0)) := Lib.hid fun d h1 h2 => by
        have := own_cell HO1.out (stV_get (hz1 (m - d) (by omega)))
        rw [hlen, show m + 1 - 1 - (m - d) = d by omega] at this; exact this
      have HNz : Hid (∀ d : Nat, D = d + 1 → ∃ x : Nat, x ≠ 0 ∧ W1.cell? ⟨g, d, none⟩ = some (.int .i64 (x : Int))) := Lib.hid fun d h1 => by
        obtain ⟨x, hx⟩ : ∃ x, ((q - 1) :: r)[j]? = some x := ⟨_, List.getElem?_eq_getElem (by rw [hlen]; omega)⟩
        have := own_cell HO1.out (stV_get hx)
        rw [hlen, show m + 1 - 1 - j = d by omega] at this
        exact ⟨x, hz2 x hx, this⟩
      have hDm : D ≤ m + 1 := by omega
      have hne2 : ∀ g', (Value.slice (some ⟨g, 0, none⟩) D c).ownBlock = some g' → g' ≠ B := fun g' e => by
        have : g = g' := Option.some.inj e
        omega
      have HEnd : Hid (∀ W', W' = W1.setCell ⟨B, 0, none⟩ (.slice (some ⟨g, 0, none⟩) D c) → LsBox ty B base rest (cntA 0 (q :: r)) W' ∧ CntK B base W W') := Lib.hid (by
        rintro W' rfl
        refine ⟨⟨_, HB1.out _, ?_⟩, HK1.out.setCell ⟨B, 0, none⟩ rfl _, fun B0 h1 h2 => (HZ.out B0 h2).setCell (by show B0 ≤ B; exact h1) _⟩
        have := own_setO (k := B) (i := 0) (x := .slice (some ⟨g, 0, none⟩) D c) HCut.out hne2
        rw [HCN.out.2, HCN.out.1]; exact this)
      clear hb ho hne hne2 hb1 hz1 hz2 hpj hcn hlen hs ht hqq hqb hgB HCut HO1 HB1 HK1 HZ HCN hj hD
      have hm0 : (0 : Int) ≤ (m : Int) := Int.natCast_nonneg _
      have hm1 : (m : Int) < (m : Int) + 1 := by omega
      go_enter Tryz.func56, Tryz.ntmps56
      go_wp2_with fail
      -- MARK3
      rw [← hW1]
      clear hW1 d0 f1 c0 f0
      go_loop [6] (fun x6 => ∃ d : Nat, x6 = .int .i64 ((d : Int) - 1) ∧ D ≤ d ∧ d ≤ m + 1) (fun x6 => (intOf x6 + 1).toNat)
      case atStart => exact ⟨m + 1, by congr 1; omega, hDm, Nat.le_refl _⟩
      case round =>
        obtain ⟨d, rfl, hd1, hd2⟩ := hrel
        by_cases hlt : D < d
        · obtain ⟨d', rfl⟩ : ∃ d', d = d' + 1 := ⟨d - 1, by omega⟩
          have e1 : (((d' + 1 : Nat) : Int) - 1) = (d' : Int) := by omega
          have c2 := HZe.out d' (by omega) (by omega)
          have h0 : (0 : Int) ≤ (d' : Int) := Int.natCast_nonneg _
          have h1 : (d' : Int) < (m : Int) + 1 := by omega
          rw [e1]
          go_wp2_with fail
          -- MARK4
          go_round
          case rel => exact ⟨d', rfl, by omega, by omega⟩
          case measure => simp [intOf]
        · obtain rfl : d = D := by omega
          cases d with
          | zero =>
            have e1 : (((0 : Nat) : Int) - 1) = -1 := rfl
            rw [e1]
            go_wp2_with fail
            -- MARK5
            go_ret
            exact ⟨by rw [HRet.out]; rfl, Lib.hid (HEnd.out _ rfl).1, (HEnd.out _ rfl).2⟩
          | succ d' =>
            obtain ⟨x, hx, c2⟩ := HNz.out d' rfl
            have e1 : (((d' + 1 : Nat) : Int) - 1) = (d' : Int) := by omega
            have h0 : (0 : Int) ≤ (d' : Int) := Int.natCast_nonneg _
            have h1 : (d' : Int) < (m : Int) + 1 := by omega
            have hx0 : ((x : Int) == 0) = false := beq_eq_false_iff_ne.2 (by omega)
            have h3 : (d' : Int) + 1 ≤ (c : Int) := by omega
            have hw3 : IntKind.i64.wrap ((d' : Int) + 1) = (d' : Int) + 1 := by rw [IntKind.wrap_i64]; omega
            rw [e1]
            go_wp2_with fail
            -- MARK6
            go_ret
            exact ⟨by rw [HRet.out]; rfl, Lib.hid (HEnd.out _ rfl).1, (HEnd.out _ rfl).2⟩
  · have hd0 : decide ((0 : Int) < (k : Int)) = true := decide_eq_true (by omega)
    have hkp : 0 < k := by omega
    have HRet : Hid (cntAV k a = 0) := Lib.hid (by unfold cntAV; rw [if_neg hk0])
    have HT := Lib.hid hty
    have HK0 := Lib.hid hk0
    cases a with
    | nil =>
      have HO := Lib.hid ho
      have HB := Lib.hid hb
      have HBS := Lib.hid hbs
      have HKK : Hid (CntK B base W W) := Lib.hid ⟨Lib.OthersKept.refl _ _ _, fun B0 _ _ => Below.refl B0 W⟩
      rcases own_form ho with ⟨rfl, _⟩ | ⟨g, c, rfl, hg, hg2⟩
      all_goals
        clear hb ho hne hs ht
        go_enter Tryz.func56, Tryz.ntmps56
        go_wp2_with (at_builtin; refine wpList_append_own _ rfl _ _ 90 rfl base 3 i0 (.int .i64 0) 1 8 Tryz.underlying90 hi hj0 hj1 hj2 rfl (by decide) _ _ _ rfl (HO.out.alloc _) ⟨W.heap.size, 0, none⟩ 1 1 [.int .i64 (k : Int)] rfl rfl (new_cells1 _ _ _ _ rfl) (by simp [Value.oneCell']) (by unfold maxLen; simp) (by simp) (by rw [World.size_alloc]; omega) ?_; intro v3 w3 hown3 hgrow3 _; obtain ⟨b3, cb3, rfl⟩ := own_lenR hown3; obtain ⟨b0, b1⟩ := push_box HT.out HB.out HO.out hgrow3)
        -- MARK7
        go_ret
        exact ⟨by rw [HRet.out]; rfl, Lib.hid (cnt_push HT.out HK0.out HKK.out HBS.out HB.out HO.out hown3 hgrow3 rfl).1, (cnt_push HT.out HK0.out HKK.out HBS.out HB.out HO.out hown3 hgrow3 rfl).2⟩
    | cons q r =>
      have hq : q ≠ 0 := ht q rfl
      obtain ⟨m, hm⟩ : ∃ m, r.length = m := ⟨_, rfl⟩
      have hqb := hs q (by simp)
      have hwq : wrap64 ((q : Int) - 1) = (q : Int) - 1 := (by unfold wrap64; omega)
      have hqq : ((q - 1 : Nat) : Int) = (q : Int) - 1 := by omega
      rcases own_form ho with ⟨_, h00⟩ | ⟨g, c, rfl, hg, hg2⟩
      · simp at h00
      have hgB : g ≠ B := hne g rfl
      have hnc := (own_cap ho).1
      rw [List.length_cons, hm] at ho hnc hl
      have d0 : W.cell? ⟨g, m, none⟩ = some (.int .i64 (q : Int)) := own_cell ho (by rw [← hm]; exact stV_top q r)
      have f1 : W.frozen? ⟨g, m, none⟩ = false := ho.frozenAt m
      obtain ⟨W1, hW1⟩ : ∃ W1, W1 = W.setCell ⟨g, m, none⟩ (.int .i64 ((q : Int) - 1)) := ⟨_, rfl⟩
      have HO1 : Hid (W1.ownsRow base 3 1 (.slice (some ⟨g, 0, none⟩) (m + 1) c) (m + 1) (stV (decT (q :: r)))) := Lib.hid (by
        have h1 := (ho.stored m (.int .i64 ((q : Int) - 1))).1
        rw [← hm, ← hqq, stV_set, hm, hqq, ← hW1] at h1; exact h1)
      have hb1 : W1.heap[B]? = some (.cells (.slice (some ⟨g, 0, none⟩) (m + 1) c :: rest).toArray ty (0, 0)) := by
        rw [hW1]; rw [List.length_cons, hm] at hb; exact (Below.heap_setCell _ _ _ _ (by exact fun e => hgB e.symm)).trans hb
      rw [List.length_cons, hm] at c0
      have HKK : Hid (CntK B base W W1) := Lib.hid ⟨by rw [hW1]; exact kept_set (Lib.ownsRow_kind ho g rfl), fun B0 _ h2 => by rw [hW1]; exact (Below.refl B0 W).setCell (by show B0 ≤ g; omega) _⟩
      have hsz : W1.heap.size = W.heap.size := by rw [hW1]; simp
      have HB := Lib.hid hb1
      have HBS : Hid (base ≤ W1.heap.size) := Lib.hid (by rw [hsz]; exact hbs)
      have HL : Hid ((q :: r).length = m + 1) := Lib.hid (by rw [List.length_cons, hm])
      have HO2 : Hid (W1.ownsRow base 3 1 (.slice (some ⟨g, 0, none⟩) (m + 1) c) (q :: r).length (stV (decT (q :: r)))) := Lib.hid (by rw [HL.out]; exact HO1.out)
      have hm0 : (0 : Int) ≤ (m : Int) := Int.natCast_nonneg _
      have hm1 : (m : Int) < (m : Int) + 1 := by omega
      clear hb ho hne hs ht hqq hqb hgB hb1
      go_enter Tryz.func56, Tryz.ntmps56
      go_wp2_with (at_builtin; rw [← hW1]; refine wpList_append_own _ rfl _ _ 90 rfl base 3 i0 (.int .i64 0) 1 8 Tryz.underlying90 hi hj0 hj1 hj2 rfl (by decide) _ _ _ rfl (HO1.out.alloc _) ⟨W.heap.size, 0, none⟩ 1 1 [.int .i64 (k : Int)] rfl rfl (new_cells1 _ _ _ _ hsz) (by simp [Value.oneCell']) (by unfold maxLen; omega) (by omega) (by rw [World.size_alloc]; omega) ?_; intro v3 w3 hown3 hgrow3 _; obtain ⟨b3, cb3, rfl⟩ := own_lenR hown3; obtain ⟨b0, b1⟩ := push_box HT.out HB.out HO1.out hgrow3)
      -- MARK8
      go_ret
      exact ⟨by rw [HRet.out]; rfl, Lib.hid (cnt_push HT.out HK0.out HKK.out HBS.out HB.out HO2.out (by rw [HL.out]; exact hown3) hgrow3 rfl).1, (cnt_push HT.out HK0.out HKK.out HBS.out HB.out HO2.out (by rw [HL.out]; exact hown3) hgrow3 rfl).2⟩

-- MARK9
end Go.Proofs.YtdiinlmeoifgjaaGreatDoor
