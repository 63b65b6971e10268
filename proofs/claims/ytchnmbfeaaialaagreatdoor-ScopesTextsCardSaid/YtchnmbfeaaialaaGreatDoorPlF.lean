/- words.ParseList. -/
import Derived.Test.YtchnmbfeaaialaaGreatDoorPlE
namespace Go.Proofs.YtchnmbfeaaialaaGreatDoor
open Go.RowKit Go.PlainAid

theorem own_lenP {w : World} {B n z : Nat} {e : TypeId} {v : Value} {xs : List Value} (h : w.ownsRow B e z v n xs) : ∃ a c, v = .slice a n c := by
  rcases h.2 with ⟨rfl, rfl⟩ | ⟨g, cap, cur, rfl, _⟩
  · exact ⟨_, _, rfl⟩
  · exact ⟨_, _, rfl⟩
def itc (l : List Int) : List Value := l.map fun n => .int .i64 n
theorem ints_ownW {w : World} {B : Nat} {e : TypeId} {v : Value} {l : List Int} (h : w.ownsRow B e 1 v l.length (itc l)) : IntsAt w v l := by
  obtain ⟨_, h⟩ := h
  rcases h with ⟨rfl, h⟩ | ⟨g, cap, cur, rfl, _, hg, _, _, _, ht⟩
  · exact .inl ⟨rfl, List.eq_nil_of_length_eq_zero h⟩
  · refine .inr ⟨g, 0, cap, rfl, (Array.getElem?_eq_some_iff.1 hg).1, fun j n hj => ?_⟩
    have hj2 : (itc l)[j]? = some (.int .i64 n) := by unfold itc; rw [List.getElem?_map, hj]; rfl
    rw [← ht] at hj2
    have hj' : cur.toList[j]? = some (.int .i64 n) := by
      rw [List.getElem?_take] at hj2
      split at hj2
      · exact hj2
      · cases hj2
    simp only [World.cell?, hg, Nat.zero_add, Option.isSome_none]
    simpa using hj'
theorem runsV_len : ∀ {L : List (List UInt8)} {p : Option (List UInt8)} {rs : List Rn}, runsV p L = some rs → rs.length = L.length := by
  intro L
  induction L with
  | nil => intro p rs h; rw [runsV] at h; cases h; rfl
  | cons T ts ih =>
    intro p rs h
    rw [runsV] at h
    split at h
    · cases h
    · split at h
      · rw [Option.map_eq_some_iff] at h
        obtain ⟨q, hq, rfl⟩ := h
        simp [ih hq]
      · cases h
theorem runsV_mem {N : Nat} : ∀ {L : List (List UInt8)} {p : Option (List UInt8)} {rs : List Rn}, (∀ x ∈ L, x.length ≤ N) → runsV p L = some rs → ∀ r ∈ rs, r.1.length ≤ N ∧ r.2.length ≤ N := by
  intro L
  induction L with
  | nil => intro p rs _ h; rw [runsV] at h; cases h; intro r hr; cases hr
  | cons T ts ih =>
    intro p rs hN h
    rw [runsV] at h
    split at h
    · cases h
    · rename_i x hx
      split at h
      · rw [Option.map_eq_some_iff] at h
        obtain ⟨q, hq, rfl⟩ := h
        intro r hr
        rcases List.mem_cons.1 hr with rfl | hr
        · have h1 := runV_len hx; have h2 := hN T (List.mem_cons_self ..); omega
        · exact ih (fun y hy => hN y (List.mem_cons_of_mem _ hy)) hq r hr
      · cases h
theorem uptoV_len (x y : Int) : (uptoV x y).length = (y - x + 1).toNat := by unfold uptoV; simp
theorem uptoV_at (x y : Int) (c : Nat) (h : x + (c : Int) ≤ y) : (uptoV x y)[c]? = some (x + (c : Int)) := by
  unfold uptoV
  rw [List.getElem?_map, List.getElem?_range (by omega)]; rfl
/-- How far the runs are written out. -/
def ExpAt (rs : List Rn) (out : List Int) (j : Nat) : Prop := out.length ≤ 500 ∧ expV [] rs = expV out (rs.drop j)
theorem expAt_start (rs : List Rn) : ExpAt rs [] 0 := ⟨Nat.zero_le _, rfl⟩
theorem expAt_end {rs : List Rn} {out : List Int} {j : Nat} (h : ExpAt rs out j) (hj : rs.length ≤ j) : expV [] rs = some out := by
  rw [h.2, List.drop_of_length_le hj, expV]
theorem expAt_bad {rs : List Rn} {out : List Int} {j : Nat} {r : Rn} (h : ExpAt rs out j) (hr : rs[j]? = some r) (hb : 500 ≤ (out.length : Int) + numV r.2 - numV r.1) : expV [] rs = none := by
  have hr' := List.getElem?_eq_some_iff.1 hr
  rw [h.2, List.drop_eq_getElem_cons hr'.1, hr'.2, expV, if_pos hb]
theorem expAt_step {rs : List Rn} {out : List Int} {j : Nat} {r : Rn} (h : ExpAt rs out j) (hr : rs[j]? = some r) (hb : ¬ 500 ≤ (out.length : Int) + numV r.2 - numV r.1) : ExpAt rs (out ++ uptoV (numV r.1) (numV r.2)) (j + 1) := by
  have hr' := List.getElem?_eq_some_iff.1 hr
  refine ⟨?_, ?_⟩
  · rw [List.length_append, uptoV_len]; have := h.1; omega
  · rw [h.2, List.drop_eq_getElem_cons hr'.1, hr'.2, expV, if_neg hb]
/-- What ParseList returns. -/
def PlOut (T : List UInt8) (w : World) (e : Ending) (w' : World) : Prop :=
  ∃ v, e = .returned (.tuple #[v, .int .i64 (parseV T).2]) ∧ IntsAt w' v (parseV T).1 ∧ Below w.heap.size w w'
theorem infoIntW : (Tryz.prog.info? 3).map (fun i => (i.zero, i.size, i.bytes)) = some (some (.int .i64 0), 1, 8) := by kernel_rfl
theorem parse_dash : parseV [45] = ([], 0) := rfl
theorem parse_form {T : List UInt8} (h : T ≠ [45]) (hr : runsV none (cutF 44 [] T) = none) : parseV T = ([], 6) := by unfold parseV; rw [if_neg h, hr]
theorem parse_range {T : List UInt8} {rs : List Rn} (h : T ≠ [45]) (hr : runsV none (cutF 44 [] T) = some rs) (hl : lessL (Lib.itoa 1000000000) (lastVW rs) = true) : parseV T = ([], 7) := by unfold parseV; rw [if_neg h, hr]; simp only [hl, if_true]
theorem parse_long {T : List UInt8} {rs : List Rn} (h : T ≠ [45]) (hr : runsV none (cutF 44 [] T) = some rs) (hl : lessL (Lib.itoa 1000000000) (lastVW rs) = false) (he : expV [] rs = none) : parseV T = ([], 3) := by unfold parseV; rw [if_neg h, hr]; simp [hl, he]
theorem parse_good {T : List UInt8} {rs : List Rn} {l : List Int} (h : T ≠ [45]) (hr : runsV none (cutF 44 [] T) = some rs) (hl : lessL (Lib.itoa 1000000000) (lastVW rs) = false) (he : expV [] rs = some l) : parseV T = (l, 0) := by unfold parseV; rw [if_neg h, hr]; simp [hl, he]

set_option maxRecDepth 100000 in
set_option maxHeartbeats 6400000 in
theorem parse_any (T : List UInt8) (w : World) (hT : T.length ≤ 50000) (hm : MaxIs w) (hr : RangeIs w) (hrl : 3 < w.heap.size) (hp : PowIs w) (hpw : 1 < w.heap.size) :
    Calls Tryz.prog 18 #[.string (str T)] w (PlOut T w) := by
  have hst : ((str T).toList == [45]) = decide (T = [45]) := by
    rw [ByteArray.toList_eq, str_list, Bool.eq_iff_iff, beq_iff_eq, decide_eq_true_iff]
  have CR := Lib.hid (readRuns_any T w hT hm)
  by_cases hd : T = [45]
  · rw [decide_eq_true hd] at hst
    have HV : Hid (parseV T = ([], 0)) := Lib.hid (by rw [hd]; rfl)
    obtain ⟨S, hS⟩ : ∃ S, str T = S := ⟨_, rfl⟩
    rw [hS] at hst ⊢
    clear hd hS CR
    go_enter Tryz.func18, Tryz.ntmps18
    go_wp2_with fail
    go_returns
    exact ⟨_, by rw [HV.out]; rfl, by rw [HV.out]; exact .inl ⟨rfl, rfl⟩, Below.refl _ _⟩
  · rw [decide_eq_false hd] at hst
    have HD : Hid (T ≠ [45]) := Lib.hid hd
    have HLM : ∀ x ∈ cutF 44 [] T, x.length ≤ 50000 := fun x hx => by have := cutF_mem hx; simp at this; omega
    have HL1 : 1 ≤ (cutF 44 [] T).length ∧ (cutF 44 [] T).length ≤ 50001 := by have := cutF_len (c := 44) (l := T) (cur := []); omega
    unfold RrOut at CR
    cases hq : runsV none (cutF 44 [] T) with
    | none =>
      have HV := Lib.hid (parse_form hd hq)
      rw [hq] at CR
      obtain ⟨S, hS⟩ : ∃ S, str T = S := ⟨_, rfl⟩
      rw [hS] at hst CR ⊢
      clear hd hS HLM HL1 hq
      go_enter Tryz.func18, Tryz.ntmps18
      go_wp2_with fail
      refine CR.out.mono ?_
      rintro e w1 ⟨v, rfl, _, hb1⟩
      go_wp2_with fail
      go_returns
      exact ⟨_, by rw [HV.out]; rfl, by rw [HV.out]; exact .inl ⟨rfl, rfl⟩, hb1⟩
    | some rs =>
      have hRL : rs.length = (cutF 44 [] T).length := runsV_len hq
      have HRM := Lib.hid (runsV_mem HLM hq)
      have HPR := Lib.hid (fun h => parse_range (T := T) hd hq h)
      have HPL := Lib.hid (fun h1 h2 => parse_long (T := T) hd hq h1 h2)
      have HPG := Lib.hid (fun h1 l h2 => parse_good (T := T) (l := l) hd hq h1 h2)
      rw [hq] at CR
      obtain ⟨m, hmm⟩ : ∃ m, rs.length = m + 1 := ⟨rs.length - 1, by omega⟩
      have hmb : m ≤ 50001 := by omega
      obtain ⟨rl, hrlast⟩ : ∃ r, rs[m]? = some r := ⟨_, List.getElem?_eq_getElem (by omega)⟩
      have hlv : lastVW rs = rl.2 := by
        unfold lastVW
        rw [List.getLast?_eq_getElem?, hmm, Nat.add_sub_cancel, hrlast]
      obtain ⟨S, hS⟩ : ∃ S, str T = S := ⟨_, rfl⟩
      rw [hS] at hst CR ⊢
      have CD : Hid (∀ W, Below w.heap.size w W → Calls Tryz.prog 40 #[.int .i64 1000000000] W fun e w' => e = .returned (.string (str (Lib.itoa 1000000000))) ∧ Below W.heap.size W w') := Lib.hid fun W hb => digits_any 1000000000 W ⟨by omega, by omega⟩ (pow_below hp hb hpw)
      have CG : Hid (∀ (a b : List UInt8) W, Calls Tryz.prog 39 #[.string (str a), .string (str b)] W fun e w' => e = .returned (.bool (lessL b a)) ∧ w' = W) := Lib.hid fun a b W => greater_any a b W
      have CE : Hid (∀ (a b : List UInt8) W, a.length ≤ 50000 ∧ b.length ≤ 50000 → Below w.heap.size w W → Calls Tryz.prog 41 #[rnV a b] W fun e w' => e = .returned (.tuple #[.int .i64 (numV a), .int .i64 (numV b)]) ∧ Below W.heap.size W w') := Lib.hid fun a b W hab hb => ends_any a b W (by omega) (by omega) (range_below hr hb hrl) (Nat.lt_of_lt_of_le hrl hb.size)
      have HM := Lib.hid hmm
      clear hd hS HLM HL1 hq hRL hm hr hrl hp hpw hT
      go_enter Tryz.func18, Tryz.ntmps18
      go_wp2_with fail
      refine CR.out.mono ?_
      rintro e w1 ⟨v, rfl, hrn, hb1⟩
      rcases hrn rs rfl with ⟨_, hnil⟩ | ⟨g, off, cap, rfl, hg, hc⟩
      · rw [hnil] at hmm; simp at hmm
      rw [hmm]
      have HC := Lib.hid hc
      have hlc := (hc _ _ (rnc_at rs hrlast).2)
      rw [← hlv] at hlc
      obtain ⟨la, hla⟩ : ∃ l, lastVW rs = l := ⟨_, rfl⟩
      rw [hla] at hlc HPR HPL HPG
      have hlc2 : w1.cell? ⟨g, off + m * 2 + 1, none⟩ = some (.string (str la)) := hlc
      have hm0 : (0 : Int) ≤ (m : Int) := by omega
      have hm1 : (m : Int) < (m : Int) + 1 := by omega
      have hwm : IntKind.i64.wrap (m : Int) = (m : Int) := IntWalk.i64_in _ ⟨by omega, by omega⟩
      clear hrn hc hlv hla hlc hmm
      go_wp2_with fail
      -- MARK1
      have HBD : Hid (Below w.heap.size w w1.drew) := Lib.hid ⟨hb1.os, hb1.tape, hb1.output, hb1.size, hb1.block⟩
      cases hgr : lessL (Lib.itoa 1000000000) la with
      | true =>
        have HV := Lib.hid (HPR.out hgr)
        go_region_held3 (fun w' => w'.cell? ⟨g, off + m * 2 + 1, none⟩ = some (.string (str la))) (go_keep)
          (first
            | (go_at_call 40; refine (CD.out _ HBD.out).mono ?_; rintro e w4 ⟨rfl, hb4⟩; have e0 : w4.cell? ⟨g, off + m * 2 + 1, none⟩ = some (.string (str la)) := (hb4.cell (p := ⟨g, off + m * 2 + 1, none⟩) hg).trans hlc2)
            | (go_at_call 39; refine (CG.out _ _ _).mono ?_; rintro e w6 ⟨rfl, hw6⟩; have hw7 := hw6.symm; subst hw7))
        all_goals
          have hb4' : Below w1.heap.size w1 w4 := ⟨hb4.os, hb4.tape, hb4.output, hb4.size, hb4.block⟩
          have hB4 := hb1.trans (hb4'.mono hb1.size)
          go_wp2_with fail
          go_returns
          exact ⟨_, by rw [HV.out]; rfl, by rw [HV.out]; exact .inl ⟨rfl, rfl⟩, hB4⟩
      | false =>
        have HLo := Lib.hid (fun h => HPL.out hgr h)
        have HGo := Lib.hid (fun l h => HPG.out hgr l h)
        go_region_held3 (fun w' => w'.cell? ⟨g, off + m * 2 + 1, none⟩ = some (.string (str la))) (go_keep)
          (first
            | (go_at_call 40; refine (CD.out _ HBD.out).mono ?_; rintro e w4 ⟨rfl, hb4⟩; have e0 : w4.cell? ⟨g, off + m * 2 + 1, none⟩ = some (.string (str la)) := (hb4.cell (p := ⟨g, off + m * 2 + 1, none⟩) hg).trans hlc2)
            | (go_at_call 39; refine (CG.out _ _ _).mono ?_; rintro e w6 ⟨rfl, hw6⟩; have hw7 := hw6.symm; subst hw7))
        all_goals
          have hb4' : Below w1.heap.size w1 w4 := ⟨hb4.os, hb4.tape, hb4.output, hb4.size, hb4.block⟩
          have hB4 := hb1.trans (hb4'.mono hb1.size)
          have HC4 : Hid (g < w4.heap.size ∧ ∀ j u, (rnc rs)[j]? = some u → w4.cell? ⟨g, off + j, none⟩ = some u) := Lib.hid ⟨Nat.lt_of_lt_of_le hg hb4'.size, fun j u hj => (hb4'.cell (p := ⟨g, off + j, none⟩) hg).trans (HC.out j u hj)⟩
          obtain ⟨i0, hi, hj0, hj1, hj2⟩ := info_partsP infoIntW
          clear hb4 hb4' HC HPR HPL HPG e0 hlc2 HBD CD CG CR hgr
          go_wp2_with fail
          -- MARK2
          go_loopw [6, 32] (fun x6 x32 wr => ∃ (j : Nat) (out : List Int), x32 = .int .i64 j ∧ j ≤ m + 1 ∧ Hid (ExpAt rs out j) ∧ Hid (wr.ownsRow w4.heap.size 3 1 x6 out.length (itc out)) ∧ Below w4.heap.size w4 wr) (fun _ x32 _ => m + 1 - (intOf x32).toNat)
          case atStart => exact ⟨0, [], rfl, Nat.zero_le _, Lib.hid (expAt_start rs), Lib.hid ⟨rfl, .inl ⟨rfl, rfl⟩⟩, Below.refl _ _⟩
          case round =>
            obtain ⟨j, out, rfl, hj, HE, HO, hB⟩ := hrel
            obtain ⟨o, ho⟩ : ∃ o, out.length = o := ⟨_, rfl⟩
            have ho500 : o ≤ 500 := by rw [← ho]; exact HE.out.1
            rw [ho] at HO
            have HOL := Lib.hid ho
            clear ho
            obtain ⟨sa, sc, rfl⟩ := own_lenP HO.out
            by_cases hlt : j < m + 1
            · obtain ⟨r, hr⟩ : ∃ r, rs[j]? = some r := ⟨_, List.getElem?_eq_getElem (by rw [HM.out]; exact hlt)⟩
              have hlt' : (j : Int) < (m : Int) + 1 := by omega
              obtain ⟨a, b⟩ := r
              have hrl := HRM.out _ (List.mem_of_getElem? hr)
              have c0 : wr.cell? ⟨g, off + j * 2, none⟩ = some (.string (str a)) := (hB.cell (p := ⟨g, off + j * 2, none⟩) HC4.out.1).trans (HC4.out.2 _ _ (rnc_at rs hr).1)
              have c1 : wr.cell? ⟨g, off + j * 2 + 1, none⟩ = some (.string (str b)) := (hB.cell (p := ⟨g, off + j * 2 + 1, none⟩) HC4.out.1).trans (HC4.out.2 _ _ (rnc_at rs hr).2)
              have HRJ := Lib.hid hr
              obtain ⟨x, hx⟩ : ∃ x, numV a = x := ⟨_, rfl⟩
              obtain ⟨y, hy⟩ : ∃ y, numV b = y := ⟨_, rfl⟩
              have hxr : 0 ≤ x ∧ x ≤ 1000000000 := by rw [← hx]; exact numV_range a
              have hyr : 0 ≤ y ∧ y ≤ 1000000000 := by rw [← hy]; exact numV_range b
              have CEj : Hid (∀ W, Below w.heap.size w W → Calls Tryz.prog 41 #[.agg #[.string (str a), .string (str b)]] W fun e w' => e = .returned (.tuple #[.int .i64 x, .int .i64 y]) ∧ Below W.heap.size W w') := Lib.hid fun W hb => by
                rw [← hx, ← hy]; exact CE.out a b W hrl hb
              have HXY : Hid (numV a = x ∧ numV b = y) := Lib.hid ⟨hx, hy⟩
              clear hr hx hy hrl
              go_wp2_with fail
              -- MARK3
              have hBW : Below w.heap.size w (wr.alloc (.cells #[.string (str a), .string (str b)] 56)) := (hB4.trans (hB.mono hB4.size)).alloc (Nat.le_trans hB4.size hB.size) _
              refine (CEj.out _ hBW).mono ?_
              rintro e w5 ⟨rfl, hb5⟩
              have HO5 := Lib.hid (own_below (HO.out.alloc _) hb5)
              have hB5 : Below w4.heap.size w4 w5 := (hB.alloc hB.size _).trans (hb5.mono (by rw [World.size_alloc]; have := hB.size; omega))
              have hw1 : IntKind.i64.wrap ((o : Int) + y) = (o : Int) + y := IntWalk.i64_in _ ⟨by omega, by omega⟩
              have hw2 : IntKind.i64.wrap ((o : Int) + y - x) = (o : Int) + y - x := IntWalk.i64_in _ ⟨by omega, by omega⟩
              clear hb5 hBW c0 c1 CEj HO hB
              by_cases hbig : 500 ≤ (o : Int) + y - x
              · have HV := Lib.hid (HLo.out (expAt_bad HE.out HRJ.out (by simp only; rw [HXY.out.1, HXY.out.2, HOL.out]; exact hbig)))
                go_wp2_with fail
                go_returns
                exact ⟨_, by rw [HV.out]; rfl, by rw [HV.out]; exact .inl ⟨rfl, rfl⟩, hB4.trans (hB5.mono hB4.size)⟩
              · have HE2 := Lib.hid (expAt_step HE.out HRJ.out (by simp only; rw [HXY.out.1, HXY.out.2, HOL.out]; exact hbig))
                go_wp2_with fail
                -- MARK4
                go_loopw [6, 11] (fun x6 x11 wr2 => ∃ c : Nat, x11 = .int .i64 (x + (c : Int)) ∧ c ≤ (y - x + 1).toNat ∧ Hid (wr2.ownsRow w4.heap.size 3 1 x6 (o + c) (itc (out ++ (uptoV x y).take c))) ∧ Below w4.heap.size w4 wr2) (fun _ x11 _ => (y - intOf x11 + 1).toNat)
                case atStart => exact ⟨0, by go_num, Nat.zero_le _, by rw [List.take_zero, List.append_nil]; exact HO5, hB5⟩
                case round =>
                  obtain ⟨c, rfl, hc, HO6, hB6⟩ := hrel
                  obtain ⟨sa2, sc2, rfl⟩ := own_lenP HO6.out
                  have hcb : c ≤ 2000 := by omega
                  by_cases hle : x + (c : Int) ≤ y
                  · have hat := uptoV_at x y c hle
                    have HT : Hid ((uptoV x y).take (c + 1) = (uptoV x y).take c ++ [x + (c : Int)]) := Lib.hid (by rw [List.take_add_one, hat]; rfl)
                    have hw3 : IntKind.i64.wrap (x + (c : Int) + 1) = x + (c : Int) + 1 := IntWalk.i64_in _ ⟨by omega, by omega⟩
                    clear hat
                    go_wp2_with (at_builtin; refine wpList_append_lies _ rfl _ _ 28 rfl w4.heap.size 3 i0 (.int .i64 0) 1 8 Tryz.underlying28 hi hj0 hj1 hj2 rfl (by decide) _ _ _ rfl (HO6.out.alloc _) ⟨wr.heap.size, 0, none⟩ 1 1 [.int .i64 (x + (c : Int))] rfl rfl (new_cells wr [.int .i64 (x + (c : Int))] _) (by simp [Value.oneCell']) (by omega) (by unfold maxLen; omega) (by omega) (by rw [World.size_alloc]; have := hB6.size; omega) (wr.heap.size + 1) (by simp) ?_; intro g1 cap1 w7 hown7 hgrow7 hat7 hlt7; have HB7 : Below w4.heap.size w4 w7 := (hB6.alloc hB6.size _).grown hgrow7 (by rw [World.size_alloc]; have := hB6.size; omega) (fun j hj => (HO6.out.lt j hj).1); have HO7 := Lib.hid hown7; clear hown7 hgrow7 hat7)
                    -- MARK5
                    exact ⟨⟨c + 1, by go_num, by omega, Lib.hid (by
                      rw [HT.out, ← List.append_assoc]
                      have := HO7.out
                      unfold itc at this ⊢
                      rw [List.map_append]
                      exact this), HB7⟩, by simp [intOf]; omega⟩
                  · have hcn : c = (y - x + 1).toNat := by omega
                    have HT : Hid ((uptoV x y).take c = uptoV x y) := Lib.hid (List.take_of_length_le (by rw [uptoV_len]; omega))
                    rw [HT.out] at HO6
                    go_wp2_with fail
                    -- MARK6
                    exact ⟨⟨j + 1, out ++ uptoV x y, by go_num, by omega, by rw [HXY.out.1, HXY.out.2] at HE2; exact HE2, by rw [List.length_append, HOL.out, uptoV_len, ← hcn]; exact HO6, hB6⟩, by simp [intOf]; omega⟩
            · obtain rfl : j = m + 1 := by omega
              have HV := Lib.hid (HGo.out out (expAt_end HE.out (by rw [HM.out]; exact Nat.le_refl _)))
              have hge : ¬ ((m + 1 : Nat) : Int) < (m : Int) + 1 := by omega
              go_wp2_with fail
              go_returns
              exact ⟨_, by rw [HV.out]; rfl, by rw [HV.out]; exact ints_ownW (by rw [HOL.out]; exact HO.out), hB4.trans (hB.mono hB4.size)⟩
end Go.Proofs.YtchnmbfeaaialaaGreatDoor
