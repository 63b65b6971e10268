/- Layer 3: Nest. -/
import Derived.Test.YtbajikkjkiacnaaDoorPshift
import Derived.Deep.LoopGhost
import Derived.Deep.AppendLies
import Derived.Deep.RegionHeld3
import Derived.Test.YtbajikkjkiacnaaDoorRord
namespace Go.Proofs.YtbajikkjkiacnaaDoor
open Go.RowKit Go.PlainAid

/-- What Nest leaves. -/
def NeV (l : List Sp) (w : World) (e : Ending) (w' : World) : Prop :=
  ∃ v, e = .returned (.tuple #[v, .int .i64 (nestS l).2.1, .int .i64 (nestS l).2.2]) ∧ w'.ownsRow w.heap.size 3 1 v (nestS l).1.length ((nestS l).1.map (Value.int .i64)) ∧ Below w.heap.size w w'
theorem ne_err {l : List Sp} {w w' : World} {at_ e : Int} (h : nestS l = ([], at_, e)) (hb : Below w.heap.size w w') : NeV l w (.returned (.tuple #[.slice none 0 0, .int .i64 at_, .int .i64 e])) w' :=
  ⟨_, by rw [h], by rw [h]; exact ⟨rfl, .inl ⟨rfl, rfl⟩⟩, hb⟩
/-- A row that the call owns, cut short. -/
theorem own_cut {w : World} {B n m : Nat} {e : TypeId} {a : Option Addr} {c : Nat} {xs : List Value} (h : w.ownsRow B e 1 (.slice a n c) n xs) (hm : m ≤ n) : w.ownsRow B e 1 (.slice a m c) m (xs.take m) := by
  obtain ⟨h1, h2⟩ := h
  refine ⟨by rw [List.length_take]; omega, ?_⟩
  rcases h2 with ⟨hv, hn⟩ | ⟨g, cap, cur, hv, hb, hg, hc, hx, hs, ht⟩
  · obtain ⟨rfl, rfl, rfl⟩ := Value.slice.inj hv
    obtain rfl : m = 0 := by omega
    exact .inl ⟨rfl, rfl⟩
  · obtain ⟨rfl, _, rfl⟩ := Value.slice.inj hv
    refine .inr ⟨g, c, cur, rfl, hb, hg, by omega, hx, hs, ?_⟩
    rw [← ht, List.take_take, Nat.mul_one, Nat.mul_one, Nat.min_eq_left hm]

/-- One row grows; another one, apart from it, is kept, and stays apart. -/
theorem grow_beside {B n m g : Nat} {e : TypeId} {w wr w3 : World} {u v : Value} {xs ys : List Value} (o : Obj) (hb : Below B w wr) (hB : B ≤ wr.heap.size) (U : wr.ownsRow B e 1 u n xs) (V : wr.ownsRow B e 1 v m ys)
    (D : ∀ x, u.ownBlock = some x → v.ownBlock = some x → False) (hg : (wr.alloc o).grownBy w3 u.ownBlock) (ha : u.ownBlock = some g ∨ g = wr.heap.size + 1) :
    w3.ownsRow B e 1 v m ys ∧ (∀ x, some g = some x → v.ownBlock = some x → False) ∧ Below B w w3 := by
  refine ⟨(V.alloc o).kept hg ?_, fun x hx hv => ?_, (hb.alloc hB o).grown hg (by simp only [World.size_alloc]; omega) (fun j hj => (U.lt j hj).1)⟩
  · cases h : v.ownBlock with
    | none => exact .inl rfl
    | some x => exact .inr fun e1 => D x e1.symm h
  · obtain rfl := Option.some.inj hx
    rcases ha with ha | ha
    · exact D g ha hv
    · have := (V.lt g hv).2; omega
theorem own_form {w : World} {B n z : Nat} {e : TypeId} {v : Value} {xs : List Value} (h : w.ownsRow B e z v n xs) : (v = .slice none 0 0 ∧ n = 0) ∨ ∃ g c, v = .slice (some ⟨g, 0, none⟩) n c ∧ B ≤ g ∧ g < w.heap.size := by
  rcases h.2 with h | ⟨g, cap, cur, hv, hb, hg, _⟩
  · exact .inl h
  · exact .inr ⟨g, cap, hv, hb, (Array.getElem?_eq_some_iff.1 hg).1⟩
theorem own_cap {w : World} {B n z : Nat} {e : TypeId} {a : Option Addr} {c : Nat} {xs : List Value} (h : w.ownsRow B e z (.slice a n c) n xs) : n ≤ c ∧ c ≤ maxLen := by
  rcases h.2 with ⟨hv, hn⟩ | ⟨g, cap, cur, hv, hb, hg, h1, h2, _⟩
  · obtain ⟨_, rfl, rfl⟩ := Value.slice.inj hv; exact ⟨Nat.le_refl _, Nat.zero_le _⟩
  · obtain ⟨_, _, rfl⟩ := Value.slice.inj hv; exact ⟨h1, h2⟩
theorem own_len {w : World} {B n z : Nat} {e : TypeId} {v : Value} {xs : List Value} (h : w.ownsRow B e z v n xs) : ∃ a c, v = .slice a n c := by
  rcases own_form h with ⟨rfl, rfl⟩ | ⟨g, c, rfl, _⟩
  · exact ⟨_, _, rfl⟩
  · exact ⟨_, _, rfl⟩
theorem own_cell {w : World} {B n : Nat} {e : TypeId} {g c : Nat} {xs : List Value} (h : w.ownsRow B e 1 (.slice (some ⟨g, 0, none⟩) n c) n xs) {j : Nat} {u : Value} (hj : xs[j]? = some u) : w.cell? ⟨g, j, none⟩ = some u := by
  have := h.cells (g := g) rfl j u hj
  have e1 : (⟨g, 0, none⟩ : Addr).add j = ⟨g, j, none⟩ := by cases j <;> simp [Addr.add]
  rw [e1] at this; exact this

set_option maxRecDepth 50000 in
set_option maxHeartbeats 3200000 in
theorem nest_go (a : Option Addr) (c n : Nat) (l : List Sp) (w : World) (h : SpsAt w (.slice a n c) l) (hn : n = l.length) (hl : n ≤ 2000) (hb : badS l < 0) :
    Calls Tryd.prog 25 #[.slice a n c] w (NeV l w) := by
  have hbd : badS l = -1 := by have := badS_bd l; rcases this with h1 | h1; · omega
                               · rw [h1]; rfl
  have C := Lib.hid (firstBad_any (.slice a n c) l w h (by omega))
  rw [hbd] at C
  have H := Lib.hid h
  have HN := Lib.hid hn
  have HB := Lib.hid hb
  clear h hn hb hbd
  go_enter Tryd.func25, Tryd.ntmps25
  go_wp2
  go_step3
  go_wp2_with (go_at_call 40; refine C.out.mono ?_; rintro e w1 ⟨rfl, hb1⟩)
  go_step3
  go_wp2
  go_loopg [2, 6, 21] n (fun g s2 s6 s21 wx => ∃ (k : Nat) (st : List Nat), k + g = n ∧ s21 = .int .i64 k ∧ st.length ≤ k ∧ Hid (NS l k st) ∧ Hid (wx.ownsRow w.heap.size 3 1 s2 k ((parsS l k).map (Value.int .i64))) ∧
    Hid (wx.ownsRow w.heap.size 3 1 s6 st.length (st.map fun q : Nat => Value.int .i64 (q : Int))) ∧ Hid (∀ x, s2.ownBlock = some x → s6.ownBlock = some x → False) ∧ Below w.heap.size w wx)
  case atStart => exact ⟨0, [], by omega, rfl, Nat.le_refl _, Lib.hid (NS.start l), Lib.hid ⟨rfl, .inl ⟨rfl, rfl⟩⟩, Lib.hid ⟨rfl, .inl ⟨rfl, rfl⟩⟩, Lib.hid (fun x h => by cases h), hb1⟩
  case round =>
    obtain ⟨k, st, hkg, rfl, hsk, HNS, HP, HS, HD, hbx⟩ := hrel
    cases gk with
    | zero =>
      obtain rfl : k = n := by omega
      have HE : Hid (nestS l = (parsS l k, 0, 0)) := Lib.hid (by rw [HN.out]; exact nest_ok (by rw [← HN.out]; exact hl) HB.out (fun j hj => HNS.out.row j (by rw [HN.out]; exact hj)))
      have hd1 : decide ((k : Int) < (k : Int)) = false := decide_eq_false (by omega)
      go_wp2
      rw [Exit.noGoto_ret]
      go_returns
      exact ⟨_, by rw [HE.out]; rfl, by rw [HE.out, parsS_len]; exact HP.out, hbx⟩
    | succ g =>
      have hd1 : decide ((k : Int) < (n : Int)) = true := decide_eq_true (by omega)
      have hkn : k < n := by omega
      obtain ⟨s, hsk2⟩ : ∃ s, l[k]? = some s := ⟨_, List.getElem?_eq_getElem (by rw [← HN.out]; exact hkn)⟩
      obtain ⟨sa, sb⟩ := s
      rcases H.out.below hbx (Nat.le_refl _) with ⟨_, _, _, hnil⟩ | ⟨gl, off, capl, hv, hgl, hcl⟩
      · rw [hnil] at hsk2; simp at hsk2
      · obtain ⟨rfl, hv2, rfl⟩ := Value.slice.inj hv
        have c0 := hcl _ _ (scs_at l hsk2).1
        have c1 : wr.cell? ⟨gl, off + k * 2 + 1, none⟩ = some (.int .i64 sb) := hcl _ _ (scs_at l hsk2).2
        have HCL := Lib.hid hcl
        have HK : Hid (gs l k = (sa, sb)) := Lib.hid (gs_at hsk2)
        clear hcl hv hv2 hsk2
        obtain ⟨m, hm⟩ : ∃ m, st.length = m := ⟨_, rfl⟩
        rw [hm] at hsk HS
        have HM := Lib.hid hm
        clear hm
        obtain ⟨pa, pc, rfl⟩ := own_len HP.out
        obtain ⟨ta, tc, rfl⟩ := own_len HS.out
        obtain ⟨wo, hwo⟩ : ∃ x, x = wr := ⟨_, rfl⟩
        subst hwo
        obtain ⟨i0, hi, hj0, hj1, hj2⟩ := info_parts2 infoSt
        obtain ⟨W2, hW2⟩ : ∃ W2, W2 = wo.alloc (.cells #[.int .i64 sa, .int .i64 sb] 25) := ⟨_, rfl⟩
        have HT := Lib.hid fun (W : World) (h : Below W2.heap.size W2 W) => one_cells wo W sa sb 25 (by subst hW2; exact h)
        have hok : Hid (∀ j, j ≤ k → isS (gs l j) = true) := Lib.hid fun j hj => by
          obtain ⟨s, hs⟩ : ∃ s, l[j]? = some s := ⟨_, List.getElem?_eq_getElem (by rw [← HN.out]; omega)⟩
          have := badS_all HB.out j s hs
          rw [gs_at hs, isS_iff]; rw [okS_iff] at this; exact ⟨this.1, this.2.1⟩
        have HPS := Lib.hid (parsS_succ l k)
        go_wp2
        rw [← hW2]
        go_loopw [2, 6, 9] (fun x2 x6 x9 wx => x2 = .slice pa k pc ∧ x6 = .slice ta m tc ∧ ∃ (i : Nat), i ≤ m ∧ x9 = .int .i64 ((i : Int) - 1) ∧ Hid (∀ q ∈ st.drop i, wiS (sa, sb) (gs l q) = false ∧ beS (gs l q) (sa, sb) = true) ∧ Below W2.heap.size W2 wx) (fun _ _ x9 _ => (intOf x9 + 1).toNat)
        case atStart => exact ⟨rfl, rfl, m, Nat.le_refl _, int_v (by go_num), Lib.hid (fun q hq => by rw [List.drop_of_length_le (by rw [HM.out]; omega)] at hq; cases hq), Below.refl _ _⟩
        case round =>
          obtain ⟨rfl, rfl, i, hi9, rfl, HR, hbW⟩ := hrel
          obtain ⟨e0, e1, hb2⟩ := HT.out _ hbW
          have HP2 := Lib.hid (own_below HP.out hb2)
          have HS2 := Lib.hid (own_below HS.out hb2)
          have hbx2 := hbx.trans (hb2.mono hbx.size)
          cases i with
          | zero =>
            have HF := Lib.hid (HNS.out.none hok.out (by rw [HK.out]; simpa using HR.out))
            go_wp2_with (first
              | (at_builtin; refine wpList_append_lies _ rfl _ _ 38 rfl w.heap.size 3 i0 (.int .i64 0) 1 8 Tryd.underlying38 hi hj0 hj1 hj2 rfl (by decide) (.slice pa k pc) k _ rfl (HP2.out.alloc _) ⟨wr.heap.size, 0, none⟩ 1 1 [.int .i64 (-1)] rfl rfl (new_cells wr [.int .i64 (-1)] _) (by simp [Value.oneCell']) (by omega) (by unfold maxLen; omega) (by omega) (by rw [World.size_alloc]; have := hbx2.size; omega) (wr.heap.size + 1) (by simp) ?_; intro g1 cap1 w3 hown1 hgrow1 hat1 hlt1; obtain ⟨S3, D3, hB3⟩ := grow_beside _ hbx2 hbx2.size HP2.out HS2.out HD.out hgrow1 hat1; have HP3 := Lib.hid hown1; have HS3 := Lib.hid (own_cut S3 (show 0 ≤ m by omega)); have HD3 : Hid (∀ x, some g1 = some x → (Value.slice ta (0) tc).ownBlock = some x → False) := Lib.hid (fun x h1 h2 => D3 x h1 (by cases ta <;> exact h2)); clear hown1 hgrow1 hat1 S3 D3)
              | (at_builtin; refine wpList_append_lies _ rfl _ _ 38 rfl w.heap.size 3 i0 (.int .i64 0) 1 8 Tryd.underlying38 hi hj0 hj1 hj2 rfl (by decide) (.slice ta (0) tc) (0) _ rfl (HS3.out.alloc _) ⟨w3.heap.size, 0, none⟩ 1 1 [.int .i64 (k : Int)] rfl rfl (new_cells w3 [.int .i64 (k : Int)] _) (by simp [Value.oneCell']) (by omega) (by unfold maxLen; omega) (by omega) (by rw [World.size_alloc]; have := hB3.size; omega) (w3.heap.size + 1) (by simp) ?_; intro g2 cap2 w4 hown2 hgrow2 hat2 hlt2; obtain ⟨P4, D4, hB4⟩ := grow_beside _ hB3 hB3.size HS3.out HP3.out (fun x h1 h2 => HD3.out x h2 h1) hgrow2 hat2; have HS4 := Lib.hid hown2; have HP4 := Lib.hid P4; have HD4 := Lib.hid D4; clear hown2 hgrow2 hat2 P4 D4))
            go_roundg g
            case measure => omega
            case rel =>
              refine ⟨k + 1, [k], by omega, by go_num, by simp, Lib.hid HF.out.2, Lib.hid ?_, Lib.hid ?_, Lib.hid (fun x h1 h2 => HD4.out x h2 h1), hB4⟩
              · rw [HPS.out, HK.out, List.map_append]
                have := HF.out.1
                rw [HK.out] at this
                rw [this]; exact HP4.out
              · exact HS4.out
          | succ i =>
            obtain ⟨q, hq⟩ : ∃ q, st[i]? = some q := ⟨_, List.getElem?_eq_getElem (by rw [HM.out]; omega)⟩
            have hqk : q < k := HNS.out.lt q (List.mem_of_getElem? hq)
            rcases own_form HS2.out with ⟨_, h0⟩ | ⟨gt, ct, hv, hgt, hgt2⟩
            · omega
            · obtain ⟨rfl, _, rfl⟩ := Value.slice.inj hv
              obtain ⟨hc1, hc2⟩ := own_cap HS2.out
              have hci : i + 1 ≤ tc := by omega
              have hcj : decide (((i : Int) + 1) ≤ (tc : Int)) = true := decide_eq_true (by omega)
              have d0 : wr.cell? ⟨gt, i, none⟩ = some (.int .i64 (q : Int)) := own_cell HS2.out (by rw [List.getElem?_map, hq]; rfl)
              have hql : q < l.length := by rw [← HN.out]; omega
              obtain ⟨t, ht⟩ : ∃ t, l[q]? = some t := ⟨_, List.getElem?_eq_getElem hql⟩
              obtain ⟨qa, qb⟩ := t
              have HQ1 := Lib.hid (scs_at l ht)
              have d1 : wr.cell? ⟨gl, off + q * 2, none⟩ = some (.int .i64 qa) := (hb2.cell (p := ⟨gl, off + q * 2, none⟩) hgl).trans (HCL.out _ _ HQ1.out.1)
              have d2 : wr.cell? ⟨gl, off + q * 2 + 1, none⟩ = some (.int .i64 qb) := (hb2.cell (p := ⟨gl, off + q * 2 + 1, none⟩) hgl).trans (HCL.out _ _ HQ1.out.2)
              have HQ : Hid (gs l q = (qa, qb)) := Lib.hid (gs_at ht)
              have hqn : q < n := by omega
              have HDR : Hid (st.drop i = q :: st.drop (i + 1)) := Lib.hid (by
                have h1 : i < st.length := by rw [HM.out]; omega
                rw [List.drop_eq_getElem_cons h1]
                rw [List.getElem?_eq_getElem h1] at hq
                rw [Option.some.inj hq])
              have HST : Hid (st = st.take i ++ q :: st.drop (i + 1)) := Lib.hid (by
                have := List.take_append_drop i st
                rw [HDR.out] at this; exact this.symm)
              have HTK : Hid (st.take (i + 1) = st.take i ++ [q]) := Lib.hid (by rw [List.take_add_one, hq]; rfl)
              clear hv ht hql hq
              have HWD : Hid (Below W2.heap.size W2 wr.drew) := Lib.hid ⟨hbW.os, hbW.tape, hbW.output, hbW.size, hbW.block⟩
              cases hw : wiS (sa, sb) (qa, qb)
              · cases hbe : beS (qa, qb) (sa, sb)
                · have HE : Hid (nestS l = ([], (k : Int), 6)) := Lib.hid (nest_err (by rw [← HN.out]; exact hl) HB.out HNS.out.row (by rw [← HN.out]; exact hkn) (HNS.out.bad (p := q) (by rw [HST.out]; simp) (by rw [HK.out, HQ.out]; exact hw) (by rw [HK.out, HQ.out]; exact hbe)))
                  go_wp2
                  go_region_held3 (fun w' => w'.cell? ⟨wo.heap.size, 0, none⟩ = some (.int .i64 sa) ∧ w'.cell? ⟨wo.heap.size, 1, none⟩ = some (.int .i64 sb) ∧ w'.cell? ⟨gl, off + q * 2, none⟩ = some (.int .i64 qa) ∧ w'.cell? ⟨gl, off + q * 2 + 1, none⟩ = some (.int .i64 qb)) (go_keep) (first | (go_at_call 44; refine (within_any _ _ _ _ _).mono ?_; rintro e w2 ⟨rfl, hb3⟩; rw [hw]; have hW3 := HWD.out.trans (hb3.mono HWD.out.size); obtain ⟨e2, e3, hb4⟩ := HT.out _ hW3; have d3 : w2.cell? ⟨gl, off + q * 2, none⟩ = some (.int .i64 qa) := (hb4.cell (p := ⟨gl, off + q * 2, none⟩) hgl).trans (HCL.out _ _ HQ1.out.1); have d4 : w2.cell? ⟨gl, off + q * 2 + 1, none⟩ = some (.int .i64 qb) := (hb4.cell (p := ⟨gl, off + q * 2 + 1, none⟩) hgl).trans (HCL.out _ _ HQ1.out.2)))
                  go_wp2
                  have HWE : Hid (Below W2.heap.size W2 w2.drew) := Lib.hid ⟨hW3.os, hW3.tape, hW3.output, hW3.size, hW3.block⟩
                  go_region_held3 (fun w' => w'.cell? ⟨wo.heap.size, 0, none⟩ = some (.int .i64 sa) ∧ w'.cell? ⟨wo.heap.size, 1, none⟩ = some (.int .i64 sb) ∧ w'.cell? ⟨gl, off + q * 2, none⟩ = some (.int .i64 qa) ∧ w'.cell? ⟨gl, off + q * 2 + 1, none⟩ = some (.int .i64 qb)) (go_keep) (first | (go_at_call 46; refine (before_any _ _ _ _ _).mono ?_; rintro e w3 ⟨rfl, hb5⟩; rw [hbe]; have hW5 := HWE.out.trans (hb5.mono HWE.out.size); obtain ⟨e4, e5, hb6⟩ := HT.out _ hW5; have d5 : w3.cell? ⟨gl, off + q * 2, none⟩ = some (.int .i64 qa) := (hb6.cell (p := ⟨gl, off + q * 2, none⟩) hgl).trans (HCL.out _ _ HQ1.out.1); have d6 : w3.cell? ⟨gl, off + q * 2 + 1, none⟩ = some (.int .i64 qb) := (hb6.cell (p := ⟨gl, off + q * 2 + 1, none⟩) hgl).trans (HCL.out _ _ HQ1.out.2)))
                  go_wp2
                  rw [Exit.noGoto_ret]
                  go_returns
                  exact ne_err HE.out (hbx.trans (hb6.mono hbx.size))
                · have HR2 : Hid (∀ x ∈ st.drop i, wiS (sa, sb) (gs l x) = false ∧ beS (gs l x) (sa, sb) = true) := Lib.hid (fun x hx => by
                    rw [HDR.out] at hx
                    rcases List.mem_cons.1 hx with rfl | hx
                    · rw [HQ.out]; exact ⟨hw, hbe⟩
                    · exact HR.out x hx)
                  go_wp2
                  go_region_held3 (fun w' => w'.cell? ⟨wo.heap.size, 0, none⟩ = some (.int .i64 sa) ∧ w'.cell? ⟨wo.heap.size, 1, none⟩ = some (.int .i64 sb) ∧ w'.cell? ⟨gl, off + q * 2, none⟩ = some (.int .i64 qa) ∧ w'.cell? ⟨gl, off + q * 2 + 1, none⟩ = some (.int .i64 qb)) (go_keep) (first | (go_at_call 44; refine (within_any _ _ _ _ _).mono ?_; rintro e w2 ⟨rfl, hb3⟩; rw [hw]; have hW3 := HWD.out.trans (hb3.mono HWD.out.size); obtain ⟨e2, e3, hb4⟩ := HT.out _ hW3; have d3 : w2.cell? ⟨gl, off + q * 2, none⟩ = some (.int .i64 qa) := (hb4.cell (p := ⟨gl, off + q * 2, none⟩) hgl).trans (HCL.out _ _ HQ1.out.1); have d4 : w2.cell? ⟨gl, off + q * 2 + 1, none⟩ = some (.int .i64 qb) := (hb4.cell (p := ⟨gl, off + q * 2 + 1, none⟩) hgl).trans (HCL.out _ _ HQ1.out.2)))
                  go_wp2
                  have HWE : Hid (Below W2.heap.size W2 w2.drew) := Lib.hid ⟨hW3.os, hW3.tape, hW3.output, hW3.size, hW3.block⟩
                  go_region_held3 (fun w' => w'.cell? ⟨wo.heap.size, 0, none⟩ = some (.int .i64 sa) ∧ w'.cell? ⟨wo.heap.size, 1, none⟩ = some (.int .i64 sb) ∧ w'.cell? ⟨gl, off + q * 2, none⟩ = some (.int .i64 qa) ∧ w'.cell? ⟨gl, off + q * 2 + 1, none⟩ = some (.int .i64 qb)) (go_keep) (first | (go_at_call 46; refine (before_any _ _ _ _ _).mono ?_; rintro e w3 ⟨rfl, hb5⟩; rw [hbe]; have hW5 := HWE.out.trans (hb5.mono HWE.out.size); obtain ⟨e4, e5, hb6⟩ := HT.out _ hW5; have d5 : w3.cell? ⟨gl, off + q * 2, none⟩ = some (.int .i64 qa) := (hb6.cell (p := ⟨gl, off + q * 2, none⟩) hgl).trans (HCL.out _ _ HQ1.out.1); have d6 : w3.cell? ⟨gl, off + q * 2 + 1, none⟩ = some (.int .i64 qb) := (hb6.cell (p := ⟨gl, off + q * 2 + 1, none⟩) hgl).trans (HCL.out _ _ HQ1.out.2)))
                  go_wp2
                  go_roundw
                  case rel => exact ⟨rfl, rfl, i, by omega, int_v (by go_num), HR2, hW5⟩
                  case measure => simp [intOf]
              · have HF := Lib.hid (NS.found (l := l) (k := k) (a := st.take i) (b := st.drop (i + 1)) (p := q) (by rw [← HST.out]; exact HNS.out) hok.out (by rw [HK.out, HQ.out]; exact hw) (by rw [HK.out]; exact HR.out))
                go_wp2
                go_region_held3 (fun w' => w'.cell? ⟨wo.heap.size, 0, none⟩ = some (.int .i64 sa) ∧ w'.cell? ⟨wo.heap.size, 1, none⟩ = some (.int .i64 sb) ∧ w'.cell? ⟨gl, off + q * 2, none⟩ = some (.int .i64 qa) ∧ w'.cell? ⟨gl, off + q * 2 + 1, none⟩ = some (.int .i64 qb)) (go_keep) (first | (go_at_call 44; refine (within_any _ _ _ _ _).mono ?_; rintro e w2 ⟨rfl, hb3⟩; rw [hw]; have hW3 := HWD.out.trans (hb3.mono HWD.out.size); obtain ⟨e2, e3, hb4⟩ := HT.out _ hW3; have d3 : w2.cell? ⟨gl, off + q * 2, none⟩ = some (.int .i64 qa) := (hb4.cell (p := ⟨gl, off + q * 2, none⟩) hgl).trans (HCL.out _ _ HQ1.out.1); have d4 : w2.cell? ⟨gl, off + q * 2 + 1, none⟩ = some (.int .i64 qb) := (hb4.cell (p := ⟨gl, off + q * 2 + 1, none⟩) hgl).trans (HCL.out _ _ HQ1.out.2)))
                have HPb := Lib.hid (own_below HP.out hb4)
                have HSb := Lib.hid (own_below HS.out hb4)
                have hbxb := hbx.trans (hb4.mono hbx.size)
                go_wp2_with (first
                  | (at_builtin; refine wpList_append_lies _ rfl _ _ 38 rfl w.heap.size 3 i0 (.int .i64 0) 1 8 Tryd.underlying38 hi hj0 hj1 hj2 rfl (by decide) (.slice pa k pc) k _ rfl (HPb.out.alloc _) ⟨w2.heap.size, 0, none⟩ 1 1 [.int .i64 ((q : Int))] rfl rfl (new_cells w2 [.int .i64 ((q : Int))] _) (by simp [Value.oneCell']) (by omega) (by unfold maxLen; omega) (by omega) (by rw [World.size_alloc]; have := hbxb.size; omega) (w2.heap.size + 1) (by simp) ?_; intro g1 cap1 w3 hown1 hgrow1 hat1 hlt1; obtain ⟨S3, D3, hB3⟩ := grow_beside _ hbxb hbxb.size HPb.out HSb.out HD.out hgrow1 hat1; have HP3 := Lib.hid hown1; have HS3 := Lib.hid (own_cut S3 (show i + 1 ≤ m by omega)); have HD3 : Hid (∀ x, some g1 = some x → (Value.slice (some ⟨gt, 0, none⟩) (i + 1) tc).ownBlock = some x → False) := Lib.hid (fun x h1 h2 => D3 x h1 h2); clear hown1 hgrow1 hat1 S3 D3)
                  | (at_builtin; refine wpList_append_lies _ rfl _ _ 38 rfl w.heap.size 3 i0 (.int .i64 0) 1 8 Tryd.underlying38 hi hj0 hj1 hj2 rfl (by decide) (.slice (some ⟨gt, 0, none⟩) (i + 1) tc) (i + 1) _ rfl (HS3.out.alloc _) ⟨w3.heap.size, 0, none⟩ 1 1 [.int .i64 (k : Int)] rfl rfl (new_cells w3 [.int .i64 (k : Int)] _) (by simp [Value.oneCell']) (by omega) (by unfold maxLen; omega) (by omega) (by rw [World.size_alloc]; have := hB3.size; omega) (w3.heap.size + 1) (by simp) ?_; intro g2 cap2 w4 hown2 hgrow2 hat2 hlt2; obtain ⟨P4, D4, hB4⟩ := grow_beside _ hB3 hB3.size HS3.out HP3.out (fun x h1 h2 => HD3.out x h2 h1) hgrow2 hat2; have HS4 := Lib.hid hown2; have HP4 := Lib.hid P4; have HD4 := Lib.hid D4; clear hown2 hgrow2 hat2 P4 D4))
                go_roundg g
                case measure => omega
                case rel =>
                  refine ⟨k + 1, st.take i ++ [q] ++ [k], by omega, by go_num, ?_, Lib.hid HF.out.2, Lib.hid ?_, Lib.hid ?_, Lib.hid (fun x h1 h2 => HD4.out x h2 h1), hB4⟩
                  · simp only [List.length_append, List.length_take, List.length_singleton]; omega
                  · rw [HPS.out, HK.out, List.map_append]
                    have := HF.out.1
                    rw [HK.out] at this
                    rw [this]; exact HP4.out
                  · have h1 : (st.take i ++ [q] ++ [k]).length = i + 1 + 1 := by
                      have := HM.out
                      simp only [List.length_append, List.length_take, List.length_singleton]; omega
                    rw [h1, ← HTK.out, List.map_append, List.map_take]
                    exact HS4.out

theorem nest_any (v : Value) (l : List Sp) (w : World) (h : SpsAt w v l) (hl : l.length ≤ 1000000) :
    Calls Tryd.prog 25 #[v] w (NeV l w) := by
  obtain ⟨a, c, rfl⟩ := h.slice
  by_cases h1 : 2000 < l.length
  · have HE : Hid (nestS l = ([], 0, 3)) := Lib.hid (by unfold nestS; rw [if_pos h1])
    obtain ⟨n, hn⟩ : ∃ n, l.length = n := ⟨_, rfl⟩
    rw [hn] at h h1 ⊢
    have hd : decide ((2000 : Int) < (n : Int)) = true := decide_eq_true (by omega)
    clear h hn hl h1
    go_enter Tryd.func25, Tryd.ntmps25
    go_wp2
    go_step3
    go_wp2
    rw [Exit.noGoto_ret]
    go_returns
    exact ne_err HE.out (Below.refl _ _)
  · by_cases h2 : badS l < 0
    · exact nest_go a c l.length l w h rfl (by omega) h2
    · have HE : Hid (nestS l = ([], badS l, 6)) := Lib.hid (by unfold nestS; rw [if_neg h1, if_pos (by omega)])
      have C := Lib.hid (firstBad_any _ l w h (by omega))
      obtain ⟨k, hk⟩ : ∃ k : Nat, badS l = (k : Int) := ⟨(badS l).toNat, by omega⟩
      rw [hk] at C HE
      obtain ⟨n, hn⟩ : ∃ n, l.length = n := ⟨_, rfl⟩
      rw [hn] at h C h1 ⊢
      have hd : decide ((2000 : Int) < (n : Int)) = false := decide_eq_false (by omega)
      clear h hn hl h1 h2 hk
      go_enter Tryd.func25, Tryd.ntmps25
      go_wp2
      go_step3
      go_wp2_with (go_at_call 40; refine C.out.mono ?_; rintro e w1 ⟨rfl, hb1⟩)
      rw [Exit.noGoto_ret]
      go_returns
      exact ne_err HE.out hb1
end Go.Proofs.YtbajikkjkiacnaaDoor
