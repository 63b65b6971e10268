/- words.readRuns. -/
import Derived.Test.YtchnmbfeaaialaaGreatDoorPlD
import Derived.BigQuiet
import Derived.Deep.RegionWith
import Derived.Deep.RegionHeld3
import Derived.Deep.DeepCutAuto
import Derived.Deep.CutBlock
namespace Go.Proofs.YtchnmbfeaaialaaGreatDoor
open Go.RowKit Go.PlainAid

/-- Runs in cells. -/
def rnc (l : List Rn) : List Value := l.flatMap fun x => [.string (str x.1), .string (str x.2)]
theorem rnc_cons (x : Rn) (l : List Rn) : rnc (x :: l) = .string (str x.1) :: .string (str x.2) :: rnc l := rfl
theorem rnc_app (a b : List Rn) : rnc (a ++ b) = rnc a ++ rnc b := List.flatMap_append
theorem rnc_at (l : List Rn) : ∀ {k : Nat} {x : Rn}, l[k]? = some x → (rnc l)[k * 2]? = some (.string (str x.1)) ∧ (rnc l)[k * 2 + 1]? = some (.string (str x.2)) := by
  induction l with
  | nil => intro k x h; simp at h
  | cons y l ih =>
    intro k x h
    rw [rnc_cons]
    cases k with
    | zero => simp at h; subst h; simp
    | succ k =>
      have := ih (k := k) (x := x) (by simpa using h)
      rw [show (k + 1) * 2 = k * 2 + 1 + 1 by omega]
      simpa using this
/-- The slice value v holds the runs l. -/
def RnsAt (w : World) (v : Value) (l : List Rn) : Prop :=
  (v = .slice none 0 0 ∧ l = []) ∨ ∃ g off cap, v = .slice (some ⟨g, off, none⟩) l.length cap ∧ g < w.heap.size ∧ ∀ j u, (rnc l)[j]? = some u → w.cell? ⟨g, off + j, none⟩ = some u
theorem RnsAt.below {B : Nat} {w w' : World} {v : Value} {l : List Rn} (h : RnsAt w v l) (hb : Below B w w') (hB : w.heap.size ≤ B) : RnsAt w' v l := by
  rcases h with h | ⟨g, off, cap, e, hg, hc⟩
  · exact .inl h
  · exact .inr ⟨g, off, cap, e, Nat.lt_of_lt_of_le hg hb.size, fun j u hj => (hb.cell (p := ⟨g, off + j, none⟩) (by show g < B; omega)).trans (hc j u hj)⟩
theorem RnsAt.own {w : World} {B : Nat} {e : TypeId} {v : Value} {l : List Rn} (h : w.ownsRow B e 2 v l.length (rnc l)) : RnsAt w v l := by
  obtain ⟨_, h⟩ := h
  rcases h with ⟨rfl, h⟩ | ⟨g, cap, cur, rfl, _, hg, _, _, _, ht⟩
  · exact .inl ⟨rfl, List.eq_nil_of_length_eq_zero h⟩
  · refine .inr ⟨g, 0, cap, rfl, (Array.getElem?_eq_some_iff.1 hg).1, fun j u hj => ?_⟩
    rw [← ht] at hj
    have hj' : cur.toList[j]? = some u := by
      rw [List.getElem?_take] at hj
      split at hj
      · exact hj
      · cases hj
    simp only [World.cell?, hg, Nat.zero_add, Option.isSome_none]
    simpa using hj'
theorem cutF_count {c : UInt8} : ∀ {l cur : List UInt8}, (cutF c cur l).length = l.count c + 1 := by
  intro l
  induction l with
  | nil => intro cur; simp [cutF]
  | cons x t ih =>
    intro cur
    rw [cutF, List.count_cons]; split
    · rename_i h; subst h; rw [List.length_cons, ih]; simp
    · rename_i h; rw [ih, if_neg (by simpa using h)]
theorem ssplit_any (T : List UInt8) (w : World) (hT : T.length ≤ 100000) (hm : MaxIs w) :
    Calls Tryz.prog 58 #[.string (str T), .string ⟨#[44]⟩] w fun e w' => ∃ c, e = .returned (.slice (some ⟨w.heap.size, 0, none⟩) (cutF 44 [] T).length c) ∧ (∀ j u, (stc (cutF 44 [] T))[j]? = some u → w'.cell? ⟨w.heap.size, j, none⟩ = some u) ∧ Below w.heap.size w w' ∧ w.heap.size < w'.heap.size := by
  obtain ⟨m, hm⟩ := hm
  have hcnt : Lib.countB (str T) ⟨#[44]⟩ = T.count 44 := by
    show Lib.count (str T).data.toList [44] = _
    rw [Lib.count_one, str_list]
  refine (Tryz.strings_Split (str T) ⟨#[44]⟩ m w (by rw [str_size]; omega) hm (by decide)).mono ?_
  rintro e w' ⟨h1, h2⟩
  rw [hcnt, ← cutF_count (cur := [])] at h1
  have h3 : (Lib.splitB ⟨#[44]⟩ 0 (Lib.countB (str T) ⟨#[44]⟩) (str T)).map Value.string = stc (cutF 44 [] T) := by
    have hd := Lib.splitB_data ⟨#[44]⟩ 0 (Lib.countB (str T) ⟨#[44]⟩) (str T)
    rw [str_list, show (⟨#[44]⟩ : ByteArray).data.toList = [44] from rfl, splitK_cut 44 _ T (by rw [hcnt]; exact Nat.le_refl _)] at hd
    unfold stc
    rw [← hd, List.map_map]
    apply List.map_congr_left
    intro b _
    simp [str_data]
  refine ⟨_, h1, ?_, by rw [h2]; exact (Below.refl _ _).alloc (Nat.le_refl _) _, by rw [h2, World.size_alloc]; omega⟩
  intro j u hj
  rw [h2, World.cell?_alloc_at _ _ _ _ rfl]
  rw [← h3] at hj
  simpa using hj
theorem runV_len {T : List UInt8} {x : Rn} (h : runV T = some x) : x.1.length ≤ T.length ∧ x.2.length ≤ T.length := by
  have hm : ∀ y ∈ cutF 45 [] T, y.length ≤ T.length := fun y hy => by have := cutF_mem hy; simpa using this
  unfold runV at h
  split at h
  · rename_i a ha
    split at h
    · cases h; have := hm a (by rw [ha]; simp); exact ⟨this, this⟩
    · cases h
  · rename_i a b ha
    split at h
    · cases h; exact ⟨hm a (by rw [ha]; simp), hm b (by rw [ha]; simp)⟩
    · cases h
  · cases h
theorem infoRn : (Tryz.prog.info? 56).map (fun i => (i.zero, i.size, i.bytes)) = some (some (.agg #[.string ⟨#[]⟩, .string ⟨#[]⟩]), 2, 32) := by kernel_rfl
/-- What readRuns returns. -/
def RrOut (T : List UInt8) (w : World) (e : Ending) (w' : World) : Prop :=
  ∃ v, e = .returned (.tuple #[v, .bool (runsV none (cutF 44 [] T)).isSome]) ∧ (∀ rs, runsV none (cutF 44 [] T) = some rs → RnsAt w' v rs) ∧ Below w.heap.size w w'
theorem cells_run (W : World) (a b : Value) (t : TypeId) : (W.alloc (.cells #[a, b] t)).cell? ⟨W.heap.size, 0, none⟩ = some a ∧ (W.alloc (.cells #[a, b] t)).cell? ⟨W.heap.size, 1, none⟩ = some b := by
  constructor <;> rw [World.cell?_alloc_at _ _ _ _ rfl] <;> rfl

set_option maxRecDepth 100000 in
set_option maxHeartbeats 6400000 in
theorem readRuns_any (T : List UInt8) (w : World) (hT : T.length ≤ 50000) (hm : MaxIs w) : Calls Tryz.prog 38 #[.string (str T)] w (RrOut T w) := by
  have HM : Hid (∀ W, Below w.heap.size w W → MaxIs W) := Lib.hid fun W hb => hm.below hb
  have CS := Lib.hid (ssplit_any T w (by omega) hm)
  have CR : Hid (∀ (x : List UInt8) W, x.length ≤ 50000 → Below w.heap.size w W → Calls Tryz.prog 59 #[.string (str x)] W (RnOut x W)) := Lib.hid fun x W hx hb => readRun_any x W (by omega) (hm.below hb)
  have CU : Hid (∀ (x : List UInt8) W, x.length ≤ 50000 → Calls Tryz.prog 60 #[.string (str x)] W fun e w' => e = .returned (.string (str (succL x))) ∧ Below W.heap.size W w') := Lib.hid fun x W hx => succ_any x W (by omega)
  have CG : Hid (∀ (a b : List UInt8) W, Calls Tryz.prog 39 #[.string (str a), .string (str b)] W fun e w' => e = .returned (.bool (lessL b a)) ∧ w' = W) := Lib.hid fun a b W => greater_any a b W
  obtain ⟨L, hL⟩ : ∃ L, cutF 44 [] T = L := ⟨_, rfl⟩
  have HLM : Hid (∀ x ∈ L, x.length ≤ 50000) := Lib.hid fun x hx => by rw [← hL] at hx; have := cutF_mem hx; simp at this; omega
  have hLn : L.length ≤ 60000 := by rw [← hL]; have := (cutF_len (c := 44) (l := T) (cur := [])).2; omega
  unfold RrOut
  rw [hL] at CS ⊢
  obtain ⟨n, hn⟩ : ∃ n, L.length = n := ⟨_, rfl⟩
  rw [hn] at CS hLn
  have HN := Lib.hid hn
  obtain ⟨i0, hi, hj0, hj1, hj2⟩ := info_partsP infoRn
  clear hL hn hm hT
  go_enter Tryz.func38, Tryz.ntmps38
  go_wp2_with fail
  refine CS.out.mono ?_
  rintro e w1 ⟨cc, rfl, hcells, hb1, hlt1⟩
  have HC := Lib.hid hcells
  obtain ⟨G, hG⟩ : ∃ G, w.heap.size = G := ⟨_, rfl⟩
  rw [hG] at HC hb1 hlt1 HM CR ⊢
  have hGs : G ≤ w1.heap.size := Nat.le_of_lt hlt1
  have HG := Lib.hid hG
  clear hcells hG
  go_wp2_with fail
  -- MARK1
  go_loopw [4, 12] (fun x4 x12 wr => ∃ (k : Nat) (pre : List Rn), x12 = .int .i64 k ∧ k ≤ n ∧ Hid (pre.length = k) ∧ Hid (RunsAt L pre (L.drop k)) ∧ Hid (∀ r ∈ pre, r.2.length ≤ 50000) ∧ Hid (wr.ownsRow w1.heap.size 56 2 x4 k (rnc pre)) ∧ Below w1.heap.size w1 wr) (fun _ x12 _ => n - (intOf x12).toNat)
  case atStart => exact ⟨0, [], rfl, Nat.zero_le _, Lib.hid rfl, Lib.hid (runsAt_start L), Lib.hid (fun r h => by cases h), Lib.hid ⟨rfl, .inl ⟨rfl, rfl⟩⟩, Below.refl _ _⟩
  case round =>
    obtain ⟨k, pre, rfl, hk, HP, HR, HPL, HO, hB⟩ := hrel
    by_cases hlt : k < n
    · obtain ⟨x, hx⟩ : ∃ x, L[k]? = some x := ⟨_, List.getElem?_eq_getElem (by rw [HN.out]; exact hlt)⟩
      have hdr : L.drop k = x :: L.drop (k + 1) := by
        have h1 : k < L.length := by rw [HN.out]; exact hlt
        rw [List.drop_eq_getElem_cons h1]; rw [List.getElem?_eq_getElem h1] at hx; rw [Option.some.inj hx]
      have HR2 := HR.out
      rw [hdr] at HR2
      have HRX := Lib.hid HR2
      have hxl := HLM.out x (List.mem_of_getElem? hx)
      have hcx : wr.cell? ⟨G, k, none⟩ = some (.string (str x)) := (hB.cell (p := ⟨G, k, none⟩) hlt1).trans (HC.out _ _ (stc_at hx))
      have hBG : Below G w wr := hb1.trans (hB.mono hGs)
      have CRx := Lib.hid (CR.out x wr hxl hBG)
      clear HR HR2 hdr hx
      go_wp2_with fail
      -- MARK2
      refine CRx.out.mono ?_
      rintro e w2 ⟨a, b, ok, rfl, hV, hb2⟩
      have HV := Lib.hid hV
      clear hV
      unfold rnV
      have HO2 := Lib.hid (own_below HO.out hb2)
      have hB2 := hB.trans (hb2.mono hB.size)
      go_wp2_with fail
      have hb3 : Below w2.heap.size w2 (w2.alloc (.cells #[.string (str a), .string (str b)] 56)) := (Below.refl _ _).alloc (Nat.le_refl _) _
      obtain ⟨d0, d1⟩ := cells_run w2 (.string (str a)) (.string (str b)) 56
      obtain ⟨W3, hW3⟩ : ∃ W3, W3 = w2.alloc (.cells #[.string (str a), .string (str b)] 56) := ⟨_, rfl⟩
      rw [← hW3] at d0 d1 hb3 ⊢
      have hs3 : w2.heap.size < W3.heap.size := by rw [hW3, World.size_alloc]; omega
      clear hW3
      have hB3 := hB2.trans (hb3.mono hB2.size)
      have HO3 := Lib.hid (own_below HO2.out hb3)
      cases ok with
      | false =>
        have HX : Hid (runsV none L = none) := Lib.hid (runsAt_bad HRX.out (.inl HV.out))
        go_quiet (fail)
        go_wp2_with fail
        go_returns
        exact ⟨_, by rw [HX.out]; rfl, (fun rs h => by rw [HX.out] at h; cases h), by rw [HG.out]; exact hb1.trans ((hB3.trans ((below_drewN W3 _).mono hB3.size)).mono hGs)⟩
      | true =>
        have hVx : runV x = some (a, b) := HV.out
        have hlab := runV_len hVx
        have HAB : Hid (∀ r ∈ pre ++ [(a, b)], r.2.length ≤ 50000) := Lib.hid fun r hr => by
          rcases List.mem_append.1 hr with h | h
          · exact HPL.out r h
          · rw [List.mem_singleton.1 h]; exact Nat.le_trans hlab.2 hxl
        rcases Nat.eq_zero_or_pos k with hk0 | hkp
        · subst hk0
          have hpre : pre = [] := List.eq_nil_of_length_eq_zero HP.out
          have HR2 := Lib.hid (runsAt_step HRX.out hVx (by rw [hpre]; rfl))
          clear hVx hlab hpre
          go_quiet (fail)
          all_goals
            obtain ⟨w4, hw4⟩ : ∃ w4, w4 = W3.drewN nq := ⟨_, rfl⟩
            have hB4 : Below w1.heap.size w1 w4 := by rw [hw4]; exact hB3.trans ((below_drewN W3 _).mono hB3.size)
            have HO4 : Hid (w4.ownsRow w1.heap.size 56 2 u4 0 (rnc pre)) := Lib.hid (by rw [hw4]; exact HO3.out)
            have e0 : w4.cell? ⟨w2.heap.size, 0, none⟩ = some (.string (str a)) := by rw [hw4]; exact d0
            have e1 : w4.cell? ⟨w2.heap.size, 1, none⟩ = some (.string (str b)) := by rw [hw4]; exact d1
            rw [← hw4]
            clear hw4
            -- MARK4
            go_wp2_with (at_builtin; refine wpList_append_lies _ rfl _ _ 52 rfl w1.heap.size 56 i0 (.agg #[.string ⟨#[]⟩, .string ⟨#[]⟩]) 2 32 Tryz.underlying52 hi hj0 hj1 hj2 rfl (by decide) _ _ _ rfl (HO4.out.alloc _) ⟨w4.heap.size, 0, none⟩ 1 1 [.string (str a), .string (str b)] rfl rfl (new_cells w4 [.string (str a), .string (str b)] _) (by simp [Value.oneCell']) (by omega) (by unfold maxLen; omega) (by omega) (by rw [World.size_alloc]; have := hB4.size; omega) (w4.heap.size + 1) (by simp) ?_; intro g1 cap1 w5 hown5 hgrow5 hat5 hlt5; have HB5 : Below w1.heap.size w1 w5 := (hB4.alloc hB4.size _).grown hgrow5 (by rw [World.size_alloc]; have := hB4.size; omega) (fun j hj => (HO4.out.lt j hj).1); have HO5 := Lib.hid hown5; clear hown5 hgrow5 hat5)
            exact ⟨⟨1, pre ++ [(a, b)], by go_num, by omega, Lib.hid (by rw [List.length_append, HP.out]; rfl), HR2, HAB, Lib.hid (by rw [rnc_app]; exact HO5.out), HB5⟩, by simp [intOf]; omega⟩
        · obtain ⟨p, rfl⟩ : ∃ p, k = p + 1 := ⟨k - 1, by omega⟩
          obtain ⟨r, hr⟩ : ∃ r, pre[p]? = some r := ⟨_, List.getElem?_eq_getElem (by rw [HP.out]; omega)⟩
          have hlast : pre.getLast? = some r := by rw [List.getLast?_eq_getElem?, HP.out, Nat.add_sub_cancel, hr]
          have hql := HPL.out r (List.mem_of_getElem? hr)
          obtain ⟨q, hq⟩ : ∃ q, r.2 = q := ⟨_, rfl⟩
          rw [hq] at hql
          rcases HO3.out.2 with ⟨_, h0⟩ | ⟨g, cap, cur, hu, hgB, hgk, hcap⟩
          · omega
          have hgc : W3.cell? ⟨g, p * 2 + 1, none⟩ = some (.string (str q)) := by
            have h1 := HO3.out
            rw [hu] at h1
            rw [h1.cellAt (p * 2 + 1) (by omega), (rnc_at pre hr).2, hq]
          have hg3 : g < W3.heap.size := (Array.getElem?_eq_some_iff.1 hgk).1
          subst hu
          have hto : ((p : Int) + 1 - 1).toNat = p := by omega
          have hwp : IntKind.i64.wrap (p : Int) = (p : Int) := IntWalk.i64_in _ ⟨by omega, by omega⟩
          have hp0 : (0 : Int) ≤ (p : Int) := by omega
          have hp1 : (p : Int) < (p : Int) + 1 := by omega
          have hbehv : ∀ t, behV (pre.getLast?.map (·.2)) t = lessL (succL q) t := fun t => by rw [hlast]; show lessL (succL r.2) t = _; rw [hq]
          have HBH := Lib.hid hbehv
          clear hgk hcap hr hlast hq hbehv
          -- MARK5
          have fin : ∀ w4, Below W3.drew.heap.size W3.drew w4 → Below w1.heap.size w1 w4 ∧ Hid (w4.ownsRow w1.heap.size 56 2 (.slice (some ⟨g, 0, none⟩) (p + 1) cap) (p + 1) (rnc pre)) ∧ w4.cell? ⟨w2.heap.size, 1, none⟩ = some (.string (str b)) := fun w4 hb4 => by
            have hb4' : Below W3.heap.size W3 w4 := ⟨hb4.os, hb4.tape, hb4.output, hb4.size, hb4.block⟩
            exact ⟨hB3.trans (hb4'.mono hB3.size), Lib.hid (own_below HO3.out hb4'), (hb4'.cell (p := ⟨w2.heap.size, 1, none⟩) hs3).trans d1⟩
          have FIN := Lib.hid fin
          cases hbeh : lessL (succL q) a with
          | false =>
            have HX : Hid (runsV none L = none) := Lib.hid (runsAt_bad HRX.out (.inr ⟨(a, b), hVx, by rw [HBH.out]; exact hbeh⟩))
            clear hVx fin
            go_wp2_with fail
            go_region_held3 (fun w' => w'.cell? ⟨w2.heap.size, 0, none⟩ = some (.string (str a)) ∧ w'.cell? ⟨g, p * 2 + 1, none⟩ = some (.string (str q))) (go_keep)
              (first
                | (go_at_call 60; refine (CU.out q _ hql).mono ?_; rintro e w4 ⟨rfl, hb4⟩; have e0 : w4.cell? ⟨w2.heap.size, 0, none⟩ = some (.string (str a)) := (hb4.cell (p := ⟨w2.heap.size, 0, none⟩) hs3).trans d0; have e1 : w4.cell? ⟨g, p * 2 + 1, none⟩ = some (.string (str q)) := (hb4.cell (p := ⟨g, p * 2 + 1, none⟩) hg3).trans hgc)
                | (go_at_call 39; refine (CG.out _ _ _).mono ?_; rintro e w6 ⟨rfl, hw6⟩; have hw7 := hw6.symm; subst hw7))
            all_goals
              have hB4 := (FIN.out _ hb4).1
              go_wp2_with fail
              go_returns
              exact ⟨_, by rw [HX.out]; rfl, (fun rs h => by rw [HX.out] at h; cases h), by rw [HG.out]; exact hb1.trans (hB4.mono hGs)⟩
          | true =>
            have HR2 := Lib.hid (runsAt_step HRX.out hVx (by rw [HBH.out]; exact hbeh))
            clear hVx hlab fin
            go_wp2_with fail
            go_region_held3 (fun w' => w'.cell? ⟨w2.heap.size, 0, none⟩ = some (.string (str a)) ∧ w'.cell? ⟨g, p * 2 + 1, none⟩ = some (.string (str q))) (go_keep)
              (first
                | (go_at_call 60; refine (CU.out q _ hql).mono ?_; rintro e w4 ⟨rfl, hb4⟩; have e0 : w4.cell? ⟨w2.heap.size, 0, none⟩ = some (.string (str a)) := (hb4.cell (p := ⟨w2.heap.size, 0, none⟩) hs3).trans d0; have e1 : w4.cell? ⟨g, p * 2 + 1, none⟩ = some (.string (str q)) := (hb4.cell (p := ⟨g, p * 2 + 1, none⟩) hg3).trans hgc)
                | (go_at_call 39; refine (CG.out _ _ _).mono ?_; rintro e w6 ⟨rfl, hw6⟩; have hw7 := hw6.symm; subst hw7))
            all_goals
              obtain ⟨hB4, HO4, e1b⟩ := FIN.out _ hb4
              clear FIN hb4
              go_wp2_with (at_builtin; refine wpList_append_lies _ rfl _ _ 52 rfl w1.heap.size 56 i0 (.agg #[.string ⟨#[]⟩, .string ⟨#[]⟩]) 2 32 Tryz.underlying52 hi hj0 hj1 hj2 rfl (by decide) _ _ _ rfl (HO4.out.alloc _) ⟨w4.heap.size, 0, none⟩ 1 1 [.string (str a), .string (str b)] rfl rfl (new_cells w4 [.string (str a), .string (str b)] _) (by simp [Value.oneCell']) (by omega) (by unfold maxLen; omega) (by omega) (by rw [World.size_alloc]; have := hB4.size; omega) (w4.heap.size + 1) (by simp) ?_; intro g1 cap1 w5 hown5 hgrow5 hat5 hlt5; have HB5 : Below w1.heap.size w1 w5 := (hB4.alloc hB4.size _).grown hgrow5 (by rw [World.size_alloc]; have := hB4.size; omega) (fun j hj => (HO4.out.lt j hj).1); have HO5 := Lib.hid hown5; clear hown5 hgrow5 hat5)
              exact ⟨⟨p + 2, pre ++ [(a, b)], by go_num, by omega, Lib.hid (by rw [List.length_append, HP.out]; rfl), HR2, HAB, Lib.hid (by rw [rnc_app]; exact HO5.out), HB5⟩, by simp [intOf]; omega⟩
    · obtain rfl : k = n := by omega
      have hnil : L.drop k = [] := List.drop_of_length_le (by rw [HN.out]; exact Nat.le_refl _)
      have HX : Hid (runsV none L = some pre) := Lib.hid (by have := HR.out; rw [hnil] at this; exact runsAt_end this)
      clear hnil
      go_wp2_with fail
      go_returns
      exact ⟨_, by rw [HX.out]; rfl, (fun rs h => by rw [HX.out] at h; cases h; exact RnsAt.own (by rw [HP.out]; exact HO.out)), by rw [HG.out]; exact hb1.trans (hB.mono hGs)⟩
end Go.Proofs.YtchnmbfeaaialaaGreatDoor
