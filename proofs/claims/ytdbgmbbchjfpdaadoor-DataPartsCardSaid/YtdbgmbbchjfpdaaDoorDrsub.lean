/- The reference's Sub, List, Put; one form of answers for the program and the reference. -/
import Derived.Test.YtdbgmbbchjfpdaaDoorDrend
namespace Go.Proofs.YtdbgmbbchjfpdaaDoor
open Go.RowKit Go.PlainAid

/-- An answer: nodes, and an error. -/
def ansV (l : List Nd) (z : Int) (w : World) (e : Ending) (w' : World) : Prop := ∃ a c, e = .returned (.tuple #[.slice a l.length c, .int .i64 z]) ∧ NdsAt w' (.slice a l.length c) l ∧ Below w.heap.size w w'
theorem ansV_nil {w w' : World} {z : Int} (h : Below w.heap.size w w') : ansV [] z w (.returned (.tuple #[.slice none 0 0, .int .i64 z])) w' := ⟨none, 0, rfl, .inl ⟨_, _, rfl, rfl⟩, h⟩
def subL (t : List Nd) (i : Int) : List Nd := if atE symS t i = 0 then subS t i.toNat else []
def listL (ts : List (List Nd)) : List Nd := if listE symS ts = 0 then listS ts else []
def putL (t : List Nd) (i : Int) (s : List Nd) : List Nd := if putE symS t i s = 0 then putS t i.toNat s else []
theorem Sub_l (v : Value) (t : List Nd) (i : Int) (w : World) (h : NdsAt w v t) (KB : KidsB t) (T : STabs w) (hcv : capOk v) :
    Calls Tryd.prog 31 #[v, .int .i64 i] w (ansV (subL t i) (atE symS t i) w) := by
  refine (Sub_any symS v t i w h (Lib.hid (symAll_of T)) (Lib.hid KB) hcv).mono ?_
  rintro e w' ⟨h1, h2, h3⟩
  unfold subL
  by_cases hz : atE symS t i = 0
  · obtain ⟨a, c, rfl, hN, _⟩ := h2 hz
    rw [if_pos hz, hz]
    exact ⟨a, c, rfl, hN, h3⟩
  · rw [if_neg hz, h1 hz]; exact ansV_nil h3
theorem List_l (v : Value) (ts : List (List Nd)) (w : World) (h : RowsAt w v ts) (KB : Hid (∀ t ∈ ts, KidsB t)) (T : STabs w) (hl : ts.length ≤ 1000) (hf : ts.flatten.length ≤ 100000) :
    Calls Tryd.prog 33 #[v] w (ansV (listL ts) (listE symS ts) w) := by
  refine (List_any symS v ts w h (Lib.hid (symAll_of T)) KB hl hf).mono ?_
  rintro e w' ⟨u, rfl, h1, h2, h3⟩
  unfold listL
  by_cases hz : listE symS ts = 0
  · obtain ⟨hN, _⟩ := h2 hz
    rw [if_pos hz, hz]
    obtain ⟨a, c, rfl⟩ := hN.slice
    exact ⟨a, c, rfl, hN, h3⟩
  · rw [if_neg hz, h1 hz]; exact ansV_nil h3
theorem Put_l (v vs : Value) (t s : List Nd) (i : Int) (w : World) (h : NdsAt w v t) (hs : NdsAt w vs s) (KB : KidsB t) (KBs : KidsB s) (T : STabs w) (hcv : capOk v) :
    Calls Tryd.prog 36 #[v, .int .i64 i, vs] w (ansV (putL t i s) (putE symS t i s) w) := by
  refine (Put_any symS v vs t s i w h hs (Lib.hid (symAll_of T)) (Lib.hid ?_) hcv).mono ?_
  · intro x hx
    rcases List.mem_cons.1 hx with e | hx
    · rw [e]; exact KB
    · rw [show x = s by simpa using hx]; exact KBs
  · rintro e w' ⟨u, rfl, h1, h2, h3⟩
    unfold putL
    by_cases hz : putE symS t i s = 0
    · obtain ⟨hN, _⟩ := h2 hz
      rw [if_pos hz, hz]
      obtain ⟨a, c, rfl⟩ := hN.slice
      exact ⟨a, c, rfl, hN, h3⟩
    · rw [if_neg hz, h1 hz]; exact ansV_nil h3

set_option maxRecDepth 50000 in
set_option maxHeartbeats 3200000 in
theorem rSub_l (v : Value) (t : List Nd) (i : Int) (w : World) (h : NdsAt w v t) (KB : KidsB t) (T : STabs w) (hcv : capOk v) :
    Calls Tryd.prog 32 #[v, .int .i64 i] w (ansV (subL t i) (atE symS t i) w) := by
  have C := Lib.hid (rat_any v t i w h KB)
  by_cases hz : atE symS t i = 0
  · obtain ⟨hD, k, rfl, hk⟩ := DatAt.of h hcv KB T hz
    have CE := Lib.hid (fun W (hW : Below w.heap.size w W) => rendD_any (hD.below hW) hk)
    obtain ⟨t1, t2, t3, _⟩ := chkT_ok hD.2.2.2.2
    obtain ⟨e1, e2⟩ := t1.end_bd (p := k) (by rw [kidsL_len]; exact hk)
    rw [kidsL_len] at e2
    obtain ⟨q, hq⟩ : ∃ q, endN (kidsL t) k = q := ⟨_, rfl⟩
    have HL : Hid (subL t (k : Int) = subS t k) := Lib.hid (by unfold subL; rw [if_pos hz, Int.toNat_natCast])
    rw [hq] at e1 e2
    have HSL : Hid ((subS t k).length = q - k) := Lib.hid (subS_len hq e2)
    obtain ⟨gt, ot, ct, rfl, hgt, hct⟩ := h.some t2
    have HC : Hid (∀ W, Below w.heap.size w W → ∀ (j : Nat) (u : Value), (dcs (subS t k))[j]? = some u → W.cell? ((⟨gt, ot + k * 4, none⟩ : Addr).add j) = some u) := Lib.hid fun W hW j u hj => by
      rw [Go.WideShapes.add_plain, Nat.add_assoc]; exact (hW.cell (p := ⟨gt, ot + (k * 4 + j), none⟩) hgt).trans (hct _ u (subS_cells hq j u hj))
    have hcap : t.length ≤ ct := hcv _ _ _ rfl
    rw [hq] at CE
    rw [hz] at C
    obtain ⟨n, hn⟩ : ∃ n, t.length = n := ⟨_, rfl⟩
    rw [hn] at C CE e2 hcap hk t3
    rw [hn, hz]
    have hx0 : (0 : Int) ≤ (k : Int) := Int.natCast_nonneg _
    have hx1 : (k : Int) ≤ (q : Int) := by omega
    have hx2 : (q : Int) ≤ (ct : Int) := by omega
    have hx3 : ¬ ct = k := by omega
    obtain ⟨i0, hi, hz0, hz1, hz2⟩ := info_parts2 infoNd
    clear h hcv KB T hz hD t1 t2 hq hn hct hgt
    go_enter Tryd.func32, Tryd.ntmps32
    go_wp2_with fail
    refine C.out.mono ?_
    rintro e' w2 ⟨rfl, hb2⟩
    have HO := Lib.hid (own_empty w2 48 4 w.heap.size hb2.size)
    have hb3 := hb2.alloc hb2.size (.cells #[] 48)
    have hsz := hb3.size
    go_wp2_with (first
      | (go_at_call 57; refine (CE.out _ hb3).mono ?_; rintro e' w3 ⟨rfl, rfl⟩)
      | (at_builtin; refine wpList_append_own _ rfl _ _ 22 rfl w.heap.size 48 i0 zeroNd 4 40 Tryd.underlying22 hi hz0 hz1 hz2 rfl (by decide) _ _ _ rfl HO.out ⟨gt, ot + k * 4, none⟩ (q - k) _ (dcs (subS t k)) rfl (by rw [dcs_len, HSL.out]) (HC.out _ hb3) (one_dcs _) (by unfold maxLen; omega) (by omega) hsz ?_; intro v' w4 hown4 hgrow4 _))
    -- MARK1
    have hb4 : Below w.heap.size w w4 := hb3.grown hgrow4 hsz (fun i hi => (HO.out.lt i hi).1)
    rw [Nat.zero_add, List.nil_append] at hown4
    obtain ⟨a', c', rfl, hnd, _⟩ := nds_own hown4 HSL.out
    go_ret2
    exact ⟨a', c', by rw [HL.out, HSL.out]; rfl, by rw [HL.out, HSL.out]; exact hnd, hb4⟩
  · have HL : Hid (subL t i = []) := Lib.hid (by unfold subL; rw [if_neg hz])
    obtain ⟨e, he⟩ : ∃ e, atE symS t i = e := ⟨_, rfl⟩
    rw [he] at C hz ⊢
    have hne : (e != 0) = true := bne_iff_ne.2 hz
    obtain ⟨a, c, rfl⟩ := h.slice
    clear h hcv KB T hz he
    go_enter Tryd.func32, Tryd.ntmps32
    go_wp2_with fail
    refine C.out.mono ?_
    rintro e' w2 ⟨rfl, hb2⟩
    go_wp2_with fail
    go_ret2
    rw [HL.out]
    exact ansV_nil hb2
end Go.Proofs.YtdbgmbbchjfpdaaDoor
