/- Depths (mathematics); the reference's Path with its errors, its Depth; slices.Max. -/
import Derived.Test.YtdbgmbbchjfpdaaDoorDrat
namespace Go.Proofs.YtdbgmbbchjfpdaaDoor
open Go.RowKit Go.PlainAid

/-- Each node has a path. -/
theorem Tr.path {ks : List Nat} (h : Tr ks) : ∀ (f i : Nat), i ≤ f → i < ks.length → ∃ P, fol ks 0 P = some i := by
  intro f
  induction f with
  | zero => intro i hf hi; exact ⟨[], by rw [show i = 0 by omega]; rfl⟩
  | succ f ih =>
    intro i hf hi
    by_cases h0 : i = 0
    · exact ⟨[], by rw [h0]; rfl⟩
    · obtain ⟨p1, _, _⟩ := h.par hi (by omega)
      obtain ⟨k, hk, hpk⟩ := h.par_child hi (by omega)
      obtain ⟨P, hP⟩ := ih (parN ks i) (by omega) (by omega)
      exact ⟨P ++ [(k : Int)], by rw [fol_one hP hk, hpk]⟩
open Classical in
/-- The depth of a node. -/
noncomputable def dep (ks : List Nat) (i : Nat) : Nat := if h : ∃ P, fol ks 0 P = some i then (Classical.choose h).length else 0
theorem Tr.dep_of {ks : List Nat} (h : Tr ks) {i : Nat} {P : List Int} (hP : fol ks 0 P = some i) : dep ks i = P.length := by
  have hx : ∃ P, fol ks 0 P = some i := ⟨P, hP⟩
  unfold dep
  rw [dif_pos hx, h.fol_inj _ P 0 i h.pos (Classical.choose_spec hx) hP]
theorem Tr.dep_0 {ks : List Nat} (h : Tr ks) : dep ks 0 = 0 := h.dep_of (P := []) rfl
theorem Tr.dep_kid {ks : List Nat} (h : Tr ks) {i k : Nat} (hi : i < ks.length) (hk : k < cnt ks i) : dep ks (posK ks i k) = dep ks i + 1 := by
  obtain ⟨P, hP⟩ := h.path i i (Nat.le_refl _) hi
  rw [h.dep_of (fol_one hP hk), h.dep_of hP, List.length_append]; rfl
theorem Tr.dep_lt {ks : List Nat} (h : Tr ks) : ∀ (f i : Nat), i ≤ f → i < ks.length → dep ks i ≤ i := by
  intro f
  induction f with
  | zero => intro i hf hi; rw [show i = 0 by omega, h.dep_0]; omega
  | succ f ih =>
    intro i hf hi
    by_cases h0 : i = 0
    · rw [h0, h.dep_0]; omega
    · obtain ⟨p1, _, _⟩ := h.par hi (by omega)
      obtain ⟨k, hk, hpk⟩ := h.par_child hi (by omega)
      have h1 := h.dep_kid (i := parN ks i) (by omega) hk
      rw [hpk] at h1
      have := ih (parN ks i) (by omega) (by omega)
      omega
/-- The greatest depth of the first nodes. -/
noncomputable def mxD (ks : List Nat) : Nat → Nat
  | 0 => 0
  | i + 1 => max (mxD ks i) (dep ks i)
theorem Tr.mxD_le {ks : List Nat} (h : Tr ks) : ∀ i, i ≤ ks.length → mxD ks i ≤ i := by
  intro i
  induction i with
  | zero => intro _; exact Nat.le_refl _
  | succ i ih =>
    intro hi
    have h1 := ih (by omega)
    have h2 := h.dep_lt i i (Nat.le_refl _) (by omega)
    rw [mxD]; omega
/-- What Depth returns. -/
noncomputable def depV (t : List Nd) : Value := if (chkT symS t).2 = 0 then .tuple #[.int .i64 (mxD (kidsL t) t.length : Int), .int .i64 0] else .tuple #[.int .i64 0, .int .i64 (chkT symS t).2]

/-- A path, or nothing. -/
def pathZ (t : List Nd) (i : Int) (l : List Int) : Prop := (atE symS t i = 0 → fol (kidsL t) 0 l = some i.toNat) ∧ (atE symS t i ≠ 0 → l = [])
def pathA (t : List Nd) (i : Int) (w : World) (e : Ending) (w' : World) : Prop := ∃ l, pathZ t i l ∧ l.length ≤ 400 ∧ intsV l (atE symS t i) w e w'
theorem pathZ_one {t : List Nd} {i : Int} {l m : List Int} (h : pathZ t i l) (h' : pathZ t i m) : l = m := by
  by_cases hz : atE symS t i = 0
  · obtain ⟨t1, _⟩ := chkT_ok (atE_0 hz).1
    exact t1.fol_inj l m 0 _ t1.pos (h.1 hz) (h'.1 hz)
  · rw [h.2 hz, h'.2 hz]
theorem Path_l (v : Value) (t : List Nd) (i : Int) (w : World) (h : NdsAt w v t) (KB : KidsB t) (T : STabs w) :
    Calls Tryd.prog 27 #[v, .int .i64 i] w (pathA t i w) := by
  refine (Path_any symS v t i w h (Lib.hid (symAll_of T)) (Lib.hid KB)).mono ?_
  rintro e w' ⟨h1, h2, h3⟩
  by_cases hz : atE symS t i = 0
  · obtain ⟨v', l, rfl, hr, hl, hf⟩ := h2 hz
    refine ⟨l, ⟨fun _ => hf, fun hn => absurd hz hn⟩, hl, ?_⟩
    rw [hz]
    have hr' := hr
    obtain ⟨a, c, rfl, _⟩ := hr
    exact ⟨a, c, rfl, hr', h3⟩
  · exact ⟨[], ⟨fun hn => absurd hn hz, fun _ => rfl⟩, Nat.zero_le _, by rw [h1 hz]; exact intsV_nil h3⟩
set_option maxRecDepth 50000 in
set_option maxHeartbeats 1600000 in
theorem rPath_l (v : Value) (t : List Nd) (i : Int) (w : World) (h : NdsAt w v t) (KB : KidsB t) (T : STabs w) (hcv : capOk v) :
    Calls Tryd.prog 28 #[v, .int .i64 i] w (pathA t i w) := by
  by_cases hz : atE symS t i = 0
  · obtain ⟨hD, k, rfl, hk⟩ := DatAt.of h hcv KB T hz
    refine (rPath_ok hD hk).mono ?_
    rintro e w' ⟨a, c, P, rfl, hr, hl, hf, hb⟩
    exact ⟨P, ⟨fun _ => by rw [Int.toNat_natCast]; exact hf, fun hn => absurd hz hn⟩, hl, a, c, by rw [hz], hr, hb⟩
  · have C := Lib.hid (rat_any v t i w h KB)
    have HX : Hid (∀ w', Below w.heap.size w w' → pathA t i w (.returned (.tuple #[.slice none 0 0, .int .i64 (atE symS t i)])) w') := Lib.hid fun w' hb => ⟨[], ⟨fun hn => absurd hn hz, fun _ => rfl⟩, Nat.zero_le _, intsV_nil hb⟩
    obtain ⟨e, he⟩ : ∃ e, atE symS t i = e := ⟨_, rfl⟩
    rw [he] at C hz HX
    have hne : (e != 0) = true := bne_iff_ne.2 hz
    obtain ⟨a, c, rfl⟩ := h.slice
    clear h hcv KB T hz he
    go_enter Tryd.func28, Tryd.ntmps28
    go_wp2_with fail
    refine C.out.mono ?_
    rintro e' w2 ⟨rfl, hb2⟩
    go_wp2_with fail
    go_ret2
    exact HX.out _ hb2

set_option maxRecDepth 50000 in
set_option maxHeartbeats 3200000 in
theorem rDepth_any (v : Value) (t : List Nd) (w : World) (h : NdsAt w v t) (KB : KidsB t) (T : STabs w) (hcv : capOk v) :
    Calls Tryd.prog 26 #[v] w fun e w' => e = .returned (depV t) ∧ Below w.heap.size w w' := by
  have C := Lib.hid (RCheck_any symS v t w h (Lib.hid (rsymAll w)) (Lib.hid KB))
  unfold chkTV at C
  by_cases hz : (chkT symS t).2 = 0
  · have hD : DatAt w v t := ⟨h, hcv, KB, T, hz⟩
    obtain ⟨hT, hne, hl, _, hce⟩ := chkT_ok hz
    rw [hce] at C
    have HV : Hid (depV t = .tuple #[.int .i64 (mxD (kidsL t) t.length : Int), .int .i64 0]) := Lib.hid (by unfold depV; rw [if_pos hz])
    have CP : Hid (∀ W, Below w.heap.size w W → ∀ i, i < t.length → Calls Tryd.prog 28 #[v, .int .i64 (i : Int)] W fun e w' => ∃ a c, e = .returned (.tuple #[.slice a (dep (kidsL t) i) c, .int .i64 0]) ∧ Below W.heap.size W w') := Lib.hid fun W hW i hi => by
      refine (rPath_ok (hD.below hW) hi).mono ?_
      rintro e w' ⟨a, c, P, rfl, _, _, hf, hb⟩
      exact ⟨a, c, by rw [hT.dep_of hf], hb⟩
    obtain ⟨n, hn⟩ : ∃ n, t.length = n := ⟨_, rfl⟩
    have HMx : Hid (∀ i, i ≤ n → mxD (kidsL t) i ≤ i) := Lib.hid fun i hi => hT.mxD_le i (by rw [kidsL_len, hn]; exact hi)
    obtain ⟨a, c, rfl⟩ := h.slice
    rw [hn] at C CP HV hl
    rw [hn]
    clear h KB T hcv hD hz hT hne hce hn
    go_enter Tryd.func26, Tryd.ntmps26
    go_wp2_with fail
    refine C.out.mono ?_
    rintro e' w2 ⟨rfl, hb2⟩
    clear C
    go_wp2_with fail
    -- MARK1
    go_loopw [6, 7] (fun x6 x7 wr => ∃ k m : Nat, x7 = .int .i64 (k : Int) ∧ k ≤ n ∧ x6 = .int .i64 (m : Int) ∧ Hid (mxD (kidsL t) k = m) ∧ Below w.heap.size w wr) (fun _ x7 _ => n - (intOf x7).toNat)
    case atStart => exact ⟨0, 0, rfl, Nat.zero_le _, rfl, Lib.hid rfl, hb2⟩
    case round =>
      obtain ⟨k, m, rfl, hk, rfl, HM, hbr⟩ := hrel
      by_cases hlt : k < n
      · have dk : decide ((k : Int) < (n : Int)) = true := decide_eq_true (by omega)
        have CPk := Lib.hid (CP.out wr hbr k hlt)
        obtain ⟨d, hd⟩ : ∃ d, dep (kidsL t) k = d := ⟨_, rfl⟩
        rw [hd] at CPk
        have HM2 : Hid (mxD (kidsL t) (k + 1) = max m d) := Lib.hid (by rw [mxD, HM.out, hd])
        clear hd
        go_wp2_with fail
        -- MARK2
        refine CPk.out.mono ?_
        rintro e' w3 ⟨a3, c3, rfl, hb3⟩
        have hbr3 := hbr.trans (hb3.mono hbr.size)
        go_wp2_with fail
        -- MARK3
        go_roundw
        case rel => exact ⟨k + 1, max m d, by go_num, by omega, by rw [show ((max m d : Nat) : Int) = max (m : Int) (d : Int) by omega], HM2, hbr3⟩
        case measure => simp [intOf]; omega
      · obtain rfl : k = n := by omega
        have dk : decide ((k : Int) < (k : Int)) = false := decide_eq_false (by omega)
        have HF : Hid (mxD (kidsL t) k = m) := HM
        go_wp2_with fail
        go_ret2
        exact ⟨by rw [HV.out, HF.out]; rfl, hbr⟩
  · have HV : Hid (depV t = .tuple #[.int .i64 0, .int .i64 (chkT symS t).2]) := Lib.hid (by unfold depV; rw [if_neg hz])
    obtain ⟨i, e, hie⟩ : ∃ i e, chkT symS t = (i, e) := ⟨_, _, rfl⟩
    rw [hie] at C HV hz
    have hne : (e != 0) = true := bne_iff_ne.2 hz
    obtain ⟨a, c, rfl⟩ := h.slice
    clear h KB T hcv hz hie
    go_enter Tryd.func26, Tryd.ntmps26
    go_wp2_with fail
    refine C.out.mono ?_
    rintro e' w2 ⟨rfl, hb2⟩
    go_wp2_with fail
    go_ret2
    exact ⟨(congrArg Ending.returned HV.out).symm, hb2⟩

set_option maxRecDepth 50000 in
set_option maxHeartbeats 1600000 in
theorem max_any (g n c : Nat) (ks : List Nat) (w : World) (h0 : 0 < n) (hl : n ≤ 400) (hd : Hid (∀ k, k < n → w.cell? ⟨g, k, none⟩ = some (.int .i64 (dep ks k : Int)))) (hz : dep ks 0 = 0) :
    Calls Tryd.prog 62 #[.slice (some ⟨g, 0, none⟩) n c] w fun e w' => e = .returned (.int .i64 (mxD ks n : Int)) ∧ w = w' := by
  have d0 := hd.out 0 h0
  rw [hz] at d0
  have H1 : Hid (mxD ks 1 = 0) := Lib.hid (by rw [mxD, mxD, hz]; rfl)
  have e0 : decide ((n : Int) < 1) = false := decide_eq_false (by omega)
  have e1 : ¬ n = 0 := by omega
  have hn0 : (0 : Int) < (n : Int) := by omega
  clear hz
  go_enter Tryd.func62, Tryd.ntmps62
  go_wp2_with fail
  -- MARK1
  go_loop [3, 4] (fun x3 x4 => ∃ k m : Nat, x4 = .int .i64 (k : Int) ∧ 1 ≤ k ∧ k ≤ n ∧ x3 = .int .i64 (m : Int) ∧ Hid (mxD ks k = m)) (fun _ x4 => n - (intOf x4).toNat)
  case atStart => exact ⟨1, 0, rfl, Nat.le_refl _, by omega, rfl, H1⟩
  case round =>
    obtain ⟨k, m, rfl, hk1, hk, rfl, HM⟩ := hrel
    have hk0 : (0 : Int) ≤ (k : Int) := Int.natCast_nonneg _
    by_cases hlt : k < n
    · have hk2 : (k : Int) < (n : Int) := by omega
      have dk := hd.out k hlt
      obtain ⟨d, hdd⟩ : ∃ d, dep ks k = d := ⟨_, rfl⟩
      rw [hdd] at dk
      have HM2 : Hid (mxD ks (k + 1) = max m d) := Lib.hid (by rw [mxD, HM.out, hdd])
      clear hdd d0
      go_wp2_with fail
      -- MARK2
      go_round
      case rel => exact ⟨k + 1, max m d, by go_num, by omega, by omega, by rw [show ((max m d : Nat) : Int) = max (m : Int) (d : Int) by omega], HM2⟩
      case measure => simp [intOf]; omega
    · obtain rfl : k = n := by omega
      have HF : Hid (mxD ks k = m) := HM
      clear d0
      go_wp2_with fail
      go_ret
      exact ⟨by rw [HF.out]; rfl, rfl⟩
end Go.Proofs.YtdbgmbbchjfpdaaDoor
