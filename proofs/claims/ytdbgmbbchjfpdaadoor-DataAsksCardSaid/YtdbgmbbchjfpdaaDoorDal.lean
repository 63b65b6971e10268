/- The law DataAsks. -/
import Derived.Test.YtdbgmbbchjfpdaaDoorDdepth
namespace Go.Proofs.YtdbgmbbchjfpdaaDoor
open Go.RowKit Go.PlainAid

theorem sizeV_form (t : List Nd) (i : Int) : ∃ x y : Int, sizeV symS t i = .tuple #[.int .i64 x, .int .i64 y] := ⟨_, _, rfl⟩
theorem parV_form (t : List Nd) (i : Int) : ∃ x y : Int, parV symS t i = .tuple #[.int .i64 x, .int .i64 y] := by
  unfold parV
  split
  · exact ⟨_, _, rfl⟩
  · split
    · exact ⟨_, _, rfl⟩
    · exact ⟨_, _, rfl⟩
theorem depV_form (t : List Nd) : ∃ x y : Int, depV t = .tuple #[.int .i64 x, .int .i64 y] := by
  unfold depV
  split
  · exact ⟨_, _, rfl⟩
  · exact ⟨_, _, rfl⟩
theorem atPV_form (t : List Nd) (l : List Int) : ∃ x y : Int, atPV symS t l = .tuple #[.int .i64 x, .int .i64 y] := by
  unfold atPV
  split
  · exact ⟨_, _, rfl⟩
  · split
    · exact ⟨_, _, rfl⟩
    · exact ⟨_, _, rfl⟩
theorem kidZ_len (t : List Nd) (i : Int) : (kidZ t i).length ≤ 1000000 := by
  unfold kidZ
  split
  · rename_i hz
    obtain ⟨h1, h2, h3⟩ := atE_0 hz
    obtain ⟨t1, _, t3, _⟩ := chkT_ok h1
    have := kidsN_le t1 (i := i.toNat) (by rw [kidsL_len]; omega)
    rw [kidsL_len] at this
    rw [List.length_map]; omega
  · exact Nat.zero_le _

set_option maxRecDepth 50000 in
set_option maxHeartbeats 6400000 in
theorem lawAs_any (v vp : Value) (t : List Nd) (i : Int) (l : List Int) (w : World) (h : NdsAt w v t) (hp : IntRow w vp l) (KB : KidsB t) (hcv : capOk v) (T : STabs w) :
    Calls Tryd.prog 4 #[v, .int .i64 i, vp] w fun e w' => e = .returned (.bool true) ∧ Below w.heap.size w w' := by
  have CS := Lib.hid (fun W (hW : Below w.heap.size w W) => shown_any W (T.below hW))
  have HST := Lib.hid (fun W (hW : Below w.heap.size w W) => T.below hW)
  have HNl := Lib.hid (fun W (hW : Below w.heap.size w W) => h.below hW (Nat.le_refl _))
  have HRl := Lib.hid (fun W (hW : Below w.heap.size w W) => hp.below hW)
  have CF := Lib.hid (dfar_any v t w h)
  have CI := Lib.hid (fun W v1 v2 (l : List Int) (h1 : IntRow W v1 l) (h2 : IntRow W v2 l) (hl : l.length ≤ 1000000) => (show Calls Tryd.prog 22 #[v1, v2] W fun e w' => e = .returned (.bool true) ∧ Below W.heap.size W w' from by
    have h3 := ints4_any v1 v2 l l W h1 h2 hl
    rw [decide_eq_true rfl] at h3; exact h3))
  obtain ⟨xs, ys, hsz⟩ := sizeV_form t i
  obtain ⟨xp, yp, hpa⟩ := parV_form t i
  obtain ⟨xd, yd, hde⟩ := depV_form t
  obtain ⟨xa, ya, hat⟩ := atPV_form t l
  have C1 := Lib.hid (fun W (hW : Below w.heap.size w W) => Size_any symS v t i W (HNl.out W hW) (Lib.hid (symAll_of (HST.out W hW))) (Lib.hid KB))
  have C2 := Lib.hid (fun W (hW : Below w.heap.size w W) => rSize_any v t i W (HNl.out W hW) hcv KB (HST.out W hW))
  have C3 := Lib.hid (fun W (hW : Below w.heap.size w W) => Kids_l v t i W (HNl.out W hW) KB (HST.out W hW))
  have C4 := Lib.hid (fun W (hW : Below w.heap.size w W) => rKids_l v t i W (HNl.out W hW) KB (HST.out W hW) hcv)
  have C5 := Lib.hid (fun W (hW : Below w.heap.size w W) => Parent_any symS v t i W (HNl.out W hW) (Lib.hid (symAll_of (HST.out W hW))) (Lib.hid KB))
  have C6 := Lib.hid (fun W (hW : Below w.heap.size w W) => rParent_l v t i W (HNl.out W hW) KB (HST.out W hW) hcv)
  have C7 := Lib.hid (fun W (hW : Below w.heap.size w W) => Depth_any v t W (HNl.out W hW) KB (HST.out W hW) hcv)
  have C8 := Lib.hid (fun W (hW : Below w.heap.size w W) => rDepth_any v t W (HNl.out W hW) KB (HST.out W hW) hcv)
  have C9 := Lib.hid (fun W (hW : Below w.heap.size w W) => Path_l v t i W (HNl.out W hW) KB (HST.out W hW))
  have C10 := Lib.hid (fun W (hW : Below w.heap.size w W) => rPath_l v t i W (HNl.out W hW) KB (HST.out W hW) hcv)
  have C11 := Lib.hid (fun W (hW : Below w.heap.size w W) (hl : l.length ≤ 1000000) => At_any symS v vp t l W (HNl.out W hW) (HRl.out W hW) (Lib.hid (symAll_of (HST.out W hW))) (Lib.hid KB) hl)
  have C12 := Lib.hid (fun W (hW : Below w.heap.size w W) (hl : l.length ≤ 1000000) => rAt_any v vp t l W (HNl.out W hW) (HRl.out W hW) KB (HST.out W hW) hcv hl)
  unfold intsV at C3 C4
  unfold pathA intsV at C9 C10
  rw [hsz] at C1 C2
  rw [hpa] at C5 C6
  rw [hde] at C7 C8
  rw [hat] at C11 C12
  have HKl : Hid ((kidZ t i).length ≤ 1000000) := Lib.hid (kidZ_len t i)
  obtain ⟨lk, hlk⟩ : ∃ lk, (kidZ t i).length = lk := ⟨_, rfl⟩
  obtain ⟨ze, hze⟩ : ∃ ze, atE symS t i = ze := ⟨_, rfl⟩
  have HPZ := Lib.hid (fun (a b : List Int) (h1 : pathZ t i a) (h2 : pathZ t i b) => pathZ_one h1 h2)
  rw [hlk, hze] at C3 C4
  rw [hze] at C9 C10
  obtain ⟨a1, c1, rfl⟩ := h.slice
  obtain ⟨a2, c2, rfl, _⟩ := hp
  obtain ⟨n, hn⟩ : ∃ n, t.length = n := ⟨_, rfl⟩
  obtain ⟨m, hm⟩ : ∃ m, l.length = m := ⟨_, rfl⟩
  rw [hn] at CF C1 C2 C3 C4 C5 C6 C7 C8 C9 C10
  rw [hn, hm] at C11 C12
  rw [hn, hm]
  have b1 : (xs != xs) = false := by simp
  have b2 : (ys != ys) = false := by simp
  have b3 : (ze != ze) = false := by simp
  have b4 : (xp != xp) = false := by simp
  have b5 : (yp != yp) = false := by simp
  have b6 : (xd != xd) = false := by simp
  have b7 : (yd != yd) = false := by simp
  have b8 : (ze == ze) = true := by simp
  have b9 : (xa == xa) = true := by simp
  have b10 : (ya == ya) = true := by simp
  clear h KB hcv T hsz hpa hde hat hlk hze hn hm HST HNl HRl
  go_enter Tryd.func4, Tryd.ntmps4
  go_wp2_with fail
  refine CF.out.mono ?_
  rintro e' w1 ⟨bf, rfl, _, hB1⟩
  cases bf with
  | true =>
    go_wp2_with fail
    refine (CS.out w1 hB1).mono ?_
    rintro e' w2 ⟨rfl, hb2⟩
    go_wp2_with fail
    go_ret
    exact ⟨rfl, hB1.trans (hb2.mono hB1.size)⟩
  | false =>
    by_cases h50 : 50 < m
    · have d50 : decide ((50 : Int) < (m : Int)) = true := decide_eq_true (by omega)
      go_wp2_with fail
      refine (CS.out w1 hB1).mono ?_
      rintro e' w2 ⟨rfl, hb2⟩
      go_wp2_with fail
      go_ret
      exact ⟨rfl, hB1.trans (hb2.mono hB1.size)⟩
    · have d50 : decide ((50 : Int) < (m : Int)) = false := decide_eq_false (by omega)
      have hm1 : m ≤ 1000000 := by omega
      go_wp2_with fail
      -- MARK1
      refine (C1.out w1 hB1).mono ?_
      rintro e' w2 ⟨rfl, hb2⟩
      have hB2 := hB1.trans (hb2.mono hB1.size)
      go_wp2_with fail
      refine (C2.out w2 hB2).mono ?_
      rintro e' w3 ⟨rfl, hb3⟩
      have hB3 := hB2.trans (hb3.mono hB2.size)
      go_wp2_with fail
      refine (C3.out w3 hB3).mono ?_
      rintro e' w4 ⟨a4, c4, rfl, hr4, hb4⟩
      have hB4 := hB3.trans (hb4.mono hB3.size)
      have HR4 := Lib.hid hr4
      clear hr4
      go_wp2_with fail
      refine (C4.out w4 hB4).mono ?_
      rintro e' w5 ⟨a5, c5, rfl, hr5, hb5⟩
      have hB5 := hB4.trans (hb5.mono hB4.size)
      have DI := Lib.hid (CI.out w5 _ _ (kidZ t i) (HR4.out.below hb5) hr5 HKl.out)
      clear hr5 C1 C2 C3 C4 hb2 hb3 hb4
      go_wp2_with fail
      -- MARK2
      refine DI.out.mono ?_
      rintro e' w6 ⟨rfl, hb6⟩
      have hB6 := hB5.trans (hb6.mono hB5.size)
      clear DI HR4 hb5
      go_wp2_with fail
      refine (C5.out w6 hB6).mono ?_
      rintro e' w7 ⟨rfl, hb7⟩
      have hB7 := hB6.trans (hb7.mono hB6.size)
      go_wp2_with fail
      refine (C6.out w7 hB7).mono ?_
      rintro e' w8 ⟨rfl, hb8⟩
      have hB8 := hB7.trans (hb8.mono hB7.size)
      go_wp2_with fail
      refine (C7.out w8 hB8).mono ?_
      rintro e' w9 ⟨rfl, hb9⟩
      have hB9 := hB8.trans (hb9.mono hB8.size)
      go_wp2_with fail
      refine (C8.out w9 hB9).mono ?_
      rintro e' w10 ⟨rfl, hb10⟩
      have hB10 := hB9.trans (hb10.mono hB9.size)
      clear C5 C6 C7 C8 hb6 hb7 hb8 hb9 hb10
      go_wp2_with fail
      -- MARK3
      refine (C9.out w10 hB10).mono ?_
      rintro e' w11 ⟨P, hP, hPl, a11, c11, rfl, hr11, hb11⟩
      have hB11 := hB10.trans (hb11.mono hB10.size)
      have HR11 := Lib.hid hr11
      have HP := Lib.hid hP
      obtain ⟨pl, hpl⟩ : ∃ pl, P.length = pl := ⟨_, rfl⟩
      have HPl := Lib.hid hpl
      rw [hpl] at HR11 hPl ⊢
      clear hr11 hP hpl
      go_wp2_with fail
      refine (C10.out w11 hB11).mono ?_
      rintro e' w12 ⟨P', hP', _, a12, c12, rfl, hr12, hb12⟩
      have hB12 := hB11.trans (hb12.mono hB11.size)
      obtain rfl := HPZ.out P P' HP.out hP'
      rw [HPl.out] at hr12 ⊢
      have HR12 := Lib.hid hr12
      have HR11' := Lib.hid (HR11.out.below hb12)
      clear hr12 hP'
      go_wp2_with fail
      -- MARK4
      refine (C11.out w12 hB12 hm1).mono ?_
      rintro e' w13 ⟨rfl, hb13⟩
      have hB13 := hB12.trans (hb13.mono hB12.size)
      go_wp2_with fail
      refine (C12.out w13 hB13 hm1).mono ?_
      rintro e' w14 ⟨rfl, hb14⟩
      have hB14 := hB13.trans (hb14.mono hB13.size)
      have hb1214 := hb13.trans (hb14.mono hb13.size)
      have DI := Lib.hid (CI.out w14 _ _ P (HR11'.out.below hb1214) (HR12.out.below hb1214) (by rw [HPl.out]; omega))
      go_wp2_with fail
      -- MARK5
      refine DI.out.mono ?_
      rintro e' w15 ⟨rfl, hb15⟩
      have hB15 := hB14.trans (hb15.mono hB14.size)
      go_wp2_with fail
      refine (CS.out w15 hB15).mono ?_
      rintro e' w16 ⟨rfl, hb16⟩
      go_wp2_with fail
      go_ret
      exact ⟨rfl, hB15.trans (hb16.mono hB15.size)⟩
end Go.Proofs.YtdbgmbbchjfpdaaDoor
