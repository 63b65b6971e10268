/- The program's List. -/
import Derived.Test.YtkngkajojcmmlaaDoorDsub2
namespace Go.Proofs.YtkngkajojcmmlaaDoor
open Go.RowKit Go.PlainAid

/-- The list of parts. -/
def listS (ts : List (List Nd)) : List Nd := (4, (ts.length : Int), 0, []) :: ts.flatten
def listE (sy : List UInt8 → Bool) (ts : List (List Nd)) : Int := if chkAllS sy ts ≠ 0 then chkAllS sy ts else (chkT sy (listS ts)).2
def ListV (sy : List UInt8 → Bool) (ts : List (List Nd)) (w : World) (e : Ending) (w' : World) : Prop :=
  ∃ v, e = .returned (.tuple #[v, .int .i64 (listE sy ts)]) ∧ (listE sy ts ≠ 0 → v = .slice none 0 0) ∧ (listE sy ts = 0 → NdsAt w' v (listS ts) ∧ capOk v) ∧ Below w.heap.size w w'
theorem chkAll_0 {sy : List UInt8 → Bool} : ∀ {ts : List (List Nd)}, chkAllS sy ts = 0 → ∀ t ∈ ts, (chkT sy t).2 = 0 := by
  intro ts
  induction ts with
  | nil => intro _ t ht; cases ht
  | cons a r ih =>
    intro h t ht
    rw [chkAllS] at h
    by_cases ha : (chkT sy a).2 = 0
    · rw [if_neg (by rw [ha]; simp)] at h
      rcases List.mem_cons.1 ht with e | ht
      · rw [e]; exact ha
      · exact ih h t ht
    · rw [if_pos ha] at h; exact absurd h ha

set_option maxRecDepth 50000 in
set_option maxHeartbeats 1600000 in
theorem List_bad (sy : List UInt8 → Bool) (v : Value) (ts : List (List Nd)) (w : World) (h : RowsAt w v ts) (HS : Hid (SymAll 16 sy w)) (KB : Hid (∀ t ∈ ts, KidsB t)) (hl : ts.length ≤ 1000000) (hz : chkAllS sy ts ≠ 0) :
    Calls Tryd.prog 33 #[v] w (ListV sy ts w) := by
  have C := Lib.hid (checkAll_any sy v ts w h HS KB hl)
  have HV : Hid (listE sy ts = chkAllS sy ts) := Lib.hid (by unfold listE; rw [if_pos hz])
  obtain ⟨a, c, rfl, _⟩ := h
  obtain ⟨e, he⟩ : ∃ e, chkAllS sy ts = e := ⟨_, rfl⟩
  rw [he] at HV C hz
  have hne : (e != 0) = true := bne_iff_ne.2 hz
  have HZ := Lib.hid hz
  clear HS KB hz hl he
  go_enter Tryd.func33, Tryd.ntmps33
  go_wp2_with fail
  refine C.out.mono ?_
  rintro e' w2 ⟨rfl, hb2⟩
  go_wp2_with fail
  go_ret2
  exact ⟨_, by rw [HV.out]; rfl, fun _ => rfl, fun h => (by rw [HV.out] at h; exact absurd h HZ.out), hb2⟩

set_option maxRecDepth 50000 in
set_option maxHeartbeats 3200000 in
theorem List_in (sy : List UInt8 → Bool) (v : Value) (ts : List (List Nd)) (w : World) (h : RowsAt w v ts) (HS : Hid (SymAll 16 sy w)) (KB : Hid (∀ t ∈ ts, KidsB t)) (hl : ts.length ≤ 1000) (hf : ts.flatten.length ≤ 100000) (hz : chkAllS sy ts = 0) :
    Calls Tryd.prog 33 #[v] w (ListV sy ts w) := by
  have C := Lib.hid (checkAll_any sy v ts w h HS KB (by omega))
  rw [hz] at C
  have HV : Hid (listE sy ts = (chkT sy (listS ts)).2) := Lib.hid (by unfold listE; rw [if_neg (by rw [hz]; simp)])
  have HKp : Hid (KidsB (listS ts)) := Lib.hid (by
    intro x hx
    rcases List.mem_cons.1 hx with e | hx
    · rw [e]; show (ts.length : Int) ≤ _; omega
    · obtain ⟨t, ht, hxt⟩ := List.mem_flatten.1 hx
      exact KB.out t ht x hxt)
  have HNe : Hid (∀ t ∈ ts, t ≠ []) := Lib.hid fun t ht => (chkT_ok (chkAll_0 hz t ht)).2.1
  obtain ⟨a, c, rfl, hA⟩ := h
  obtain ⟨m, hm⟩ : ∃ m, ts.length = m := ⟨_, rfl⟩
  have HA : Hid (∀ W, Below w.heap.size w W → ∀ (k : Nat) (t : List Nd), ts[k]? = some t → ∃ g off, a = some ⟨g, off, none⟩ ∧ ∃ gt ot ct, W.cell? ⟨g, off + k, none⟩ = some (.slice (some ⟨gt, ot, none⟩) t.length ct) ∧ ∀ (j : Nat) (u : Value), (dcs t)[j]? = some u → W.cell? ((⟨gt, ot, none⟩ : Addr).add j) = some u) := Lib.hid fun W hW k t ht => by
    rcases hA with rfl | ⟨g, off, rfl, hg, hc⟩
    · cases ht
    · obtain ⟨vt, d0, hN⟩ := hc k t ht
      obtain ⟨gt, ot, ct, rfl, hgt, hct⟩ := hN.some (HNe.out t (List.mem_of_getElem? ht))
      exact ⟨g, off, rfl, gt, ot, ct, (hW.cell (p := ⟨g, off + k, none⟩) hg).trans d0, fun j u hj => by
        rw [Go.WideShapes.add_plain]; exact (hW.cell (p := ⟨gt, ot + j, none⟩) hgt).trans (hct j u hj)⟩
  have HLen : Hid ((listS ts).length = 1 + ts.flatten.length) := Lib.hid (by unfold listS; rw [List.length_cons]; omega)
  have C4 : Hid (∀ (W : World) (b : Option Addr) (cb p : Nat), Below w.heap.size w W → p = 1 + ts.flatten.length → W.ownsRow w.heap.size 48 4 (.slice b p cb) p (dcs (listS ts)) → NdsAt W (.slice b p cb) (listS ts) ∧ capOk (.slice b p cb) ∧ Calls Tryd.prog 67 #[.slice b p cb] W fun e w' => e = .returned (madeV sy (.slice b p cb) (listS ts)) ∧ Below W.heap.size W w') := Lib.hid fun W b cb p hW hp ho => by
    obtain ⟨a', c', e, hN, hcc⟩ := nds_own ho (by rw [HLen.out, hp])
    cases e
    exact ⟨hN, (fun _ _ _ e => by cases e; exact hcc), made_any sy _ _ W hN (Lib.hid (HS.out.below hW)) HKp⟩
  have HF := Lib.hid (fun k => Nat.le_trans (flat_le ts k) hf)
  obtain ⟨em, hem⟩ : ∃ em, (chkT sy (listS ts)).2 = em := ⟨_, rfl⟩
  obtain ⟨F, hF⟩ : ∃ F : Value → Value, ∀ vv, F vv = if em = 0 then vv else .slice none 0 0 := ⟨_, fun _ => rfl⟩
  have HMd : Hid (∀ vv, madeV sy vv (listS ts) = .tuple #[F vv, .int .i64 em]) := Lib.hid fun vv => by unfold madeV; rw [hem, hF]
  have HFF := Lib.hid hF
  rw [hem] at HV
  have HL0 : Hid (listS ts = (4, (m : Int), 0, []) :: ts.flatten) := Lib.hid (by unfold listS; rw [hm])
  have HM := Lib.hid hm
  rw [hm] at C hl
  rw [hm]
  clear HS KB hz hem hF hA hm HNe HKp
  go_enter Tryd.func33, Tryd.ntmps33
  go_wp2_with fail
  refine C.out.mono ?_
  rintro e' w2 ⟨rfl, hb2⟩
  go_wp2_with fail
  -- MARK1
  have hO0 := World.ownsRow_lit (base := w.heap.size) (e := 48) (size := 4) w2 #[.int .i64 4, .int .i64 (m : Int), .int .i64 0, .string ⟨#[]⟩] 1 (hb2.size) (by decide) rfl
  have hb3 := hb2.alloc hb2.size (.cells #[.int .i64 4, .int .i64 (m : Int), .int .i64 0, .string ⟨#[]⟩] 48)
  have HO0 := Lib.hid hO0
  clear hO0
  go_loopw [5, 19] (fun x5 x19 wr => ∃ (j p : Nat) (b : Option Addr) (cb : Nat), x19 = .int .i64 (j : Int) ∧ j ≤ m ∧ x5 = .slice b p cb ∧ Hid (1 + (ts.take j).flatten.length = p) ∧ Hid (wr.ownsRow w.heap.size 48 4 (.slice b p cb) p (dcs ((4, (m : Int), 0, []) :: (ts.take j).flatten))) ∧ Below w.heap.size w wr) (fun _ x19 _ => m - (intOf x19).toNat)
  case atStart => exact ⟨0, 1, _, _, rfl, Nat.zero_le _, rfl, Lib.hid (by simp), Lib.hid HO0.out, hb3⟩
  case round =>
    obtain ⟨j, p, b, cb, rfl, hj, rfl, HP, HO, hbr⟩ := hrel
    have hj0 : (0 : Int) ≤ (j : Int) := Int.natCast_nonneg _
    by_cases hlt : j < m
    · obtain ⟨t, ht⟩ : ∃ t, ts[j]? = some t := ⟨_, List.getElem?_eq_getElem (by rw [HM.out]; exact hlt)⟩
      obtain ⟨g, off, rfl, gt, ot, ct, d1, hct⟩ := HA.out wr hbr j t ht
      have HCT := Lib.hid hct
      have HFl := Lib.hid (take_flat ht)
      have hlen := HF.out (j + 1)
      have hp := HP.out
      rw [HFl.out, List.length_append] at hlen
      obtain ⟨tl, htl⟩ : ∃ tl, t.length = tl := ⟨_, rfl⟩
      have HTL := Lib.hid htl
      rw [htl] at d1 hlen
      have hpt : p + tl ≤ 100001 := by omega
      have hj1 : (j : Int) < (m : Int) := by omega
      obtain ⟨i0, hi, hz0, hz1, hz2⟩ := info_parts2 infoNd
      clear ht hct htl hp hlen
      go_wp2_with (at_builtin; refine wpList_append_own _ rfl _ _ 22 rfl w.heap.size 48 i0 zeroNd 4 40 Tryd.underlying22 hi hz0 hz1 hz2 rfl (by decide) _ _ _ rfl HO.out ⟨gt, ot, none⟩ tl ct (dcs t) rfl (by rw [dcs_len, HTL.out]) HCT.out (one_dcs t) (by unfold maxLen; omega) (by omega) hbr.size ?_; intro v' w4 hown4 hgrow4 _)
      -- MARK2
      have hO4 : w4.ownsRow w.heap.size 48 4 v' (p + tl) (dcs ((4, (m : Int), 0, []) :: (ts.take (j + 1)).flatten)) := by rw [HFl.out, ← List.cons_append, dcs_app]; exact hown4
      have hb4 : Below w.heap.size w w4 := hbr.grown hgrow4 hbr.size (fun i hi => (HO.out.lt i hi).1)
      have HO4 := Lib.hid hO4
      rcases own_form hO4 with ⟨_, h00⟩ | ⟨g2, c2, rfl, _, _⟩
      · have := HP.out; omega
      clear hO4 hown4 hgrow4
      go_roundw
      case rel => exact ⟨j + 1, p + tl, _, _, by go_num, by omega, rfl, Lib.hid (by have := HP.out; rw [HFl.out, List.length_append, HTL.out]; omega), HO4, hb4⟩
      case measure => simp [intOf]; omega
    · obtain rfl : j = m := by omega
      have hfl : ts.take j = ts := List.take_of_length_le (Nat.le_of_eq HM.out)
      have HO5 : Hid (wr.ownsRow w.heap.size 48 4 (.slice b p cb) p (dcs (listS ts))) := Lib.hid (by have := HO.out; rw [hfl, ← HL0.out] at this; exact this)
      have hpf : p = 1 + ts.flatten.length := by rw [← HP.out, hfl]
      have hm5 := Lib.hid (C4.out wr b cb p hbr hpf HO5.out)
      clear hfl hpf HO5 HO
      go_wp2_with fail
      -- MARK3
      refine hm5.out.2.2.mono ?_
      rintro e' w6 ⟨rfl, hb6⟩
      rw [HMd.out]
      go_wp2_with fail
      -- MARK4
      go_ret2
      exact ⟨F (.slice b p cb), by rw [HV.out]; rfl, fun h => (by rw [HV.out] at h; rw [HFF.out, if_neg h]), fun h => (by rw [HV.out] at h; rw [HFF.out, if_pos h]; exact ⟨hm5.out.1.below hb6 (Nat.le_refl _), hm5.out.2.1⟩), hbr.trans (hb6.mono hbr.size)⟩
theorem List_any (sy : List UInt8 → Bool) (v : Value) (ts : List (List Nd)) (w : World) (h : RowsAt w v ts) (HS : Hid (SymAll 16 sy w)) (KB : Hid (∀ t ∈ ts, KidsB t)) (hl : ts.length ≤ 1000) (hf : ts.flatten.length ≤ 100000) :
    Calls Tryd.prog 33 #[v] w (ListV sy ts w) := by
  by_cases hz : chkAllS sy ts = 0
  · exact List_in sy v ts w h HS KB hl hf hz
  · exact List_bad sy v ts w h HS KB (by omega) hz
end Go.Proofs.YtkngkajojcmmlaaDoor
