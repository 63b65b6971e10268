/- Patterns: the examples. (Written by tools/gen_hw.py.) -/
import Derived.Test.YtdiinlmeoifgjaaGreatDoorHv
namespace Go.Proofs.YtdiinlmeoifgjaaGreatDoor
open Go.RowKit Go.PlainAid

theorem sm_cons {x : Sx} {l : List Sx} (h1 : x.s.length ≤ 100000 ∧ x.p.length ≤ 100000) (h : SmX l) : SmX (x :: l) := fun y hy => by
  rcases List.mem_cons.1 hy with rfl | hy
  · exact h1
  · exact h y hy
theorem in_cons {x : Sx} {l : List Sx} (h1 : x.c ≤ 9223372036854775807) (h : InX l) : InX (x :: l) := fun y hy => by
  rcases List.mem_cons.1 hy with rfl | hy
  · exact h1
  · exact h y hy
theorem smE_m : SmX [symX [109]] := sm_cons (by decide) (fun _ h => (by cases h))
theorem inE_m : InX [symX [109]] := in_cons (by decide) (fun _ h => (by cases h))
theorem smE_L1 : SmX [lstX 4, symX [109], symX [97], lstX 3, symX [98], symX [99], symX [46, 46, 46], symX [46, 46, 46]] := sm_cons (by decide) (sm_cons (by decide) (sm_cons (by decide) (sm_cons (by decide) (sm_cons (by decide) (sm_cons (by decide) (sm_cons (by decide) (sm_cons (by decide) (fun _ h => (by cases h)))))))))
theorem inE_L1 : InX [lstX 4, symX [109], symX [97], lstX 3, symX [98], symX [99], symX [46, 46, 46], symX [46, 46, 46]] := in_cons (by decide) (in_cons (by decide) (in_cons (by decide) (in_cons (by decide) (in_cons (by decide) (in_cons (by decide) (in_cons (by decide) (in_cons (by decide) (fun _ h => (by cases h)))))))))
theorem smE_L2 : SmX [lstX 5, symX [109], symX [101, 108, 115, 101], symX [97], symX [95], numX 5] := sm_cons (by decide) (sm_cons (by decide) (sm_cons (by decide) (sm_cons (by decide) (sm_cons (by decide) (sm_cons (by decide) (fun _ h => (by cases h)))))))
theorem inE_L2 : InX [lstX 5, symX [109], symX [101, 108, 115, 101], symX [97], symX [95], numX 5] := in_cons (by decide) (in_cons (by decide) (in_cons (by decide) (in_cons (by decide) (in_cons (by decide) (in_cons (by decide) (fun _ h => (by cases h)))))))
theorem smE_L3 : SmX [lstX 4, symX [109], symX [97], symX [46, 46, 46], symX [98]] := sm_cons (by decide) (sm_cons (by decide) (sm_cons (by decide) (sm_cons (by decide) (sm_cons (by decide) (fun _ h => (by cases h))))))
theorem inE_L3 : InX [lstX 4, symX [109], symX [97], symX [46, 46, 46], symX [98]] := in_cons (by decide) (in_cons (by decide) (in_cons (by decide) (in_cons (by decide) (in_cons (by decide) (fun _ h => (by cases h))))))
theorem smE_L4 : SmX [lstX 3, symX [109], symX [97], symX [97]] := sm_cons (by decide) (sm_cons (by decide) (sm_cons (by decide) (sm_cons (by decide) (fun _ h => (by cases h)))))
theorem inE_L4 : InX [lstX 3, symX [109], symX [97], symX [97]] := in_cons (by decide) (in_cons (by decide) (in_cons (by decide) (in_cons (by decide) (fun _ h => (by cases h)))))
theorem smE_L5 : SmX [lstX 3, symX [109], symX [46, 46, 46], symX [97]] := sm_cons (by decide) (sm_cons (by decide) (sm_cons (by decide) (sm_cons (by decide) (fun _ h => (by cases h)))))
theorem inE_L5 : InX [lstX 3, symX [109], symX [46, 46, 46], symX [97]] := in_cons (by decide) (in_cons (by decide) (in_cons (by decide) (in_cons (by decide) (fun _ h => (by cases h)))))
theorem smE_L6 : SmX [lstX 5, symX [109], symX [97], symX [46, 46, 46], symX [98], symX [46, 46, 46]] := sm_cons (by decide) (sm_cons (by decide) (sm_cons (by decide) (sm_cons (by decide) (sm_cons (by decide) (sm_cons (by decide) (fun _ h => (by cases h)))))))
theorem inE_L6 : InX [lstX 5, symX [109], symX [97], symX [46, 46, 46], symX [98], symX [46, 46, 46]] := in_cons (by decide) (in_cons (by decide) (in_cons (by decide) (in_cons (by decide) (in_cons (by decide) (in_cons (by decide) (fun _ h => (by cases h)))))))
theorem smE_L8 : SmX [lstX 0] := sm_cons (by decide) (fun _ h => (by cases h))
theorem inE_L8 : InX [lstX 0] := in_cons (by decide) (fun _ h => (by cases h))
theorem smE_L9 : SmX [lstX 2, numX 5, symX [97]] := sm_cons (by decide) (sm_cons (by decide) (sm_cons (by decide) (fun _ h => (by cases h))))
theorem inE_L9 : InX [lstX 2, numX 5, symX [97]] := in_cons (by decide) (in_cons (by decide) (in_cons (by decide) (fun _ h => (by cases h))))
theorem rdE_L1 : rdP [lstX 4, symX [109], symX [97], lstX 3, symX [98], symX [99], symX [46, 46, 46], symX [46, 46, 46]] [] = ([(([97], []), 0), (([98], []), 1), (([99], []), 2)], 0, 0) := by decide +kernel
theorem rdE_L2 : rdP [lstX 5, symX [109], symX [101, 108, 115, 101], symX [97], symX [95], numX 5] [([101, 108, 115, 101], [])] = ([(([97], []), 0)], 0, 0) := by decide +kernel
theorem rdE_L3 : rdP [lstX 4, symX [109], symX [97], symX [46, 46, 46], symX [98]] [] = ([(([97], []), 1), (([98], []), 0)], 0, 0) := by decide +kernel
theorem rdE_L4 : (rdP [lstX 3, symX [109], symX [97], symX [97]] []).2 = (3, 8) := by decide +kernel
theorem rdE_L5 : (rdP [lstX 3, symX [109], symX [46, 46, 46], symX [97]] []).2 = (2, 6) := by decide +kernel
theorem rdE_L6 : (rdP [lstX 5, symX [109], symX [97], symX [46, 46, 46], symX [98], symX [46, 46, 46]] []).2 = (5, 6) := by decide +kernel
theorem rdE_m : (rdP [symX [109]] []).2 = (0, 6) := by decide +kernel
theorem rdE_L8 : (rdP [lstX 0] []).2 = (0, 6) := by decide +kernel
theorem rdE_L9 : (rdP [lstX 2, numX 5, symX [97]] []).2 = (1, 6) := by decide +kernel
set_option maxRecDepth 100000 in
set_option maxHeartbeats 6400000 in
theorem shown_any (w : World) (T : STabs w) : Calls Tryz.prog 6 #[] w fun e w' => e = .returned (.bool true) ∧ Below w.heap.size w w' := by
  have T0 := Lib.hid T
  have hb0 : Below w.heap.size w w := Below.refl _ _
  clear T
  go_enter Tryz.func6, Tryz.ntmps6
  go_wp2_with fail
  have CC := Lib.hid (Sym_any ⟨#[109]⟩ [109] rfl w)
  refine CC.out.mono ?_
  clear CC
  rintro e w1 ⟨r, rfl, hx, hb⟩
  replace hb0 := below_step hb0 hb
  replace T0 := Lib.hid (T0.out.below hb)
  clear hb
  obtain ⟨am, cm, em, _⟩ := hx.slice
  replace em : r = .slice am 1 cm := em
  subst em
  have xm : Hid (XsAt w1 (.slice am 1 cm) [symX [109]]) := Lib.hid hx
  clear hx
  go_wp2_with fail
  have CC := Lib.hid (Sym_any ⟨#[97]⟩ [97] rfl w1)
  refine CC.out.mono ?_
  clear CC
  rintro e w2 ⟨r, rfl, hx, hb⟩
  replace xm := Lib.hid (xm.out.below hb (Nat.le_refl _))
  replace hb0 := below_step hb0 hb
  replace T0 := Lib.hid (T0.out.below hb)
  clear hb
  obtain ⟨aa, ca, ea, _⟩ := hx.slice
  replace ea : r = .slice aa 1 ca := ea
  subst ea
  have xa : Hid (XsAt w2 (.slice aa 1 ca) [symX [97]]) := Lib.hid hx
  clear hx
  go_wp2_with fail
  have CC := Lib.hid (Sym_any ⟨#[98]⟩ [98] rfl w2)
  refine CC.out.mono ?_
  clear CC
  rintro e w3 ⟨r, rfl, hx, hb⟩
  replace xm := Lib.hid (xm.out.below hb (Nat.le_refl _))
  replace xa := Lib.hid (xa.out.below hb (Nat.le_refl _))
  replace hb0 := below_step hb0 hb
  replace T0 := Lib.hid (T0.out.below hb)
  clear hb
  obtain ⟨ab, cb, eb, _⟩ := hx.slice
  replace eb : r = .slice ab 1 cb := eb
  subst eb
  have xb : Hid (XsAt w3 (.slice ab 1 cb) [symX [98]]) := Lib.hid hx
  clear hx
  go_wp2_with fail
  have CC := Lib.hid (Sym_any ⟨#[46, 46, 46]⟩ [46, 46, 46] rfl w3)
  refine CC.out.mono ?_
  clear CC
  rintro e w4 ⟨r, rfl, hx, hb⟩
  replace xm := Lib.hid (xm.out.below hb (Nat.le_refl _))
  replace xa := Lib.hid (xa.out.below hb (Nat.le_refl _))
  replace xb := Lib.hid (xb.out.below hb (Nat.le_refl _))
  replace hb0 := below_step hb0 hb
  replace T0 := Lib.hid (T0.out.below hb)
  clear hb
  obtain ⟨ad, cd, ed, _⟩ := hx.slice
  replace ed : r = .slice ad 1 cd := ed
  subst ed
  have xd : Hid (XsAt w4 (.slice ad 1 cd) [symX [46, 46, 46]]) := Lib.hid hx
  clear hx
  go_wp2_with fail
  have CC := Lib.hid (Sym_any ⟨#[99]⟩ [99] rfl w4)
  refine CC.out.mono ?_
  clear CC
  rintro e w5 ⟨r, rfl, hx, hb⟩
  replace xm := Lib.hid (xm.out.below hb (Nat.le_refl _))
  replace xa := Lib.hid (xa.out.below hb (Nat.le_refl _))
  replace xb := Lib.hid (xb.out.below hb (Nat.le_refl _))
  replace xd := Lib.hid (xd.out.below hb (Nat.le_refl _))
  replace hb0 := below_step hb0 hb
  replace T0 := Lib.hid (T0.out.below hb)
  clear hb
  obtain ⟨ac, cc, ec, _⟩ := hx.slice
  replace ec : r = .slice ac 1 cc := ec
  subst ec
  have xc : Hid (XsAt w5 (.slice ac 1 cc) [symX [99]]) := Lib.hid hx
  clear hx
  go_wp2_with fail
  have CC := Lib.hid (List_any [(.slice ab 1 cb, [symX [98]]), (.slice ac 1 cc, [symX [99]]), (.slice ad 1 cd, [symX [46, 46, 46]])] 3 rfl w5 _ rfl (by
      intro q hq
      simp only [List.mem_cons, List.not_mem_nil, or_false] at hq
      rcases hq with rfl | rfl | rfl
      · exact ⟨xb.out, by simp⟩
      · exact ⟨xc.out, by simp⟩
      · exact ⟨xd.out, by simp⟩
      ) (by
      intro q hq
      simp only [List.mem_cons, List.not_mem_nil, or_false] at hq
      rcases hq with rfl | rfl | rfl
      · exact (by simp)
      · exact (by simp)
      · exact (by simp)
      ) (by decide) (by decide))
  refine CC.out.mono ?_
  clear CC
  rintro e w6 ⟨r, rfl, hx, hb⟩
  replace xm := Lib.hid (xm.out.below hb (Nat.le_refl _))
  replace xa := Lib.hid (xa.out.below hb (Nat.le_refl _))
  replace xb := Lib.hid (xb.out.below hb (Nat.le_refl _))
  replace xd := Lib.hid (xd.out.below hb (Nat.le_refl _))
  replace xc := Lib.hid (xc.out.below hb (Nat.le_refl _))
  replace hb0 := below_step hb0 hb
  replace T0 := Lib.hid (T0.out.below hb)
  clear hb
  obtain ⟨al, cl, el, _⟩ := hx.slice
  replace el : r = .slice al 4 cl := el
  subst el
  have xl : Hid (XsAt w6 (.slice al 4 cl) [lstX 3, symX [98], symX [99], symX [46, 46, 46]]) := Lib.hid hx
  clear hx
  go_wp2_with fail
  have CC := Lib.hid (List_any [(.slice am 1 cm, [symX [109]]), (.slice aa 1 ca, [symX [97]]), (.slice al 4 cl, [lstX 3, symX [98], symX [99], symX [46, 46, 46]]), (.slice ad 1 cd, [symX [46, 46, 46]])] 4 rfl w6 _ rfl (by
      intro q hq
      simp only [List.mem_cons, List.not_mem_nil, or_false] at hq
      rcases hq with rfl | rfl | rfl | rfl
      · exact ⟨xm.out, by simp⟩
      · exact ⟨xa.out, by simp⟩
      · exact ⟨xl.out, by simp⟩
      · exact ⟨xd.out, by simp⟩
      ) (by
      intro q hq
      simp only [List.mem_cons, List.not_mem_nil, or_false] at hq
      rcases hq with rfl | rfl | rfl | rfl
      · exact (by simp)
      · exact (by simp)
      · exact (by simp)
      · exact (by simp)
      ) (by decide) (by decide))
  refine CC.out.mono ?_
  clear CC
  rintro e w7 ⟨r, rfl, hx, hb⟩
  replace xm := Lib.hid (xm.out.below hb (Nat.le_refl _))
  replace xa := Lib.hid (xa.out.below hb (Nat.le_refl _))
  replace xb := Lib.hid (xb.out.below hb (Nat.le_refl _))
  replace xd := Lib.hid (xd.out.below hb (Nat.le_refl _))
  replace xc := Lib.hid (xc.out.below hb (Nat.le_refl _))
  replace xl := Lib.hid (xl.out.below hb (Nat.le_refl _))
  replace hb0 := below_step hb0 hb
  replace T0 := Lib.hid (T0.out.below hb)
  clear hb
  obtain ⟨aL1, cL1, eL1, _⟩ := hx.slice
  replace eL1 : r = .slice aL1 8 cL1 := eL1
  subst eL1
  have xL1 : Hid (XsAt w7 (.slice aL1 8 cL1) [lstX 4, symX [109], symX [97], lstX 3, symX [98], symX [99], symX [46, 46, 46], symX [46, 46, 46]]) := Lib.hid hx
  clear hx
  go_wp2_with fail
  have CC := Lib.hid (v_any ⟨#[97]⟩ 0 w7)
  refine CC.out.mono ?_
  clear CC
  rintro e w8 ⟨rfl, hb⟩
  replace xm := Lib.hid (xm.out.below hb (Nat.le_refl _))
  replace xa := Lib.hid (xa.out.below hb (Nat.le_refl _))
  replace xb := Lib.hid (xb.out.below hb (Nat.le_refl _))
  replace xd := Lib.hid (xd.out.below hb (Nat.le_refl _))
  replace xc := Lib.hid (xc.out.below hb (Nat.le_refl _))
  replace xl := Lib.hid (xl.out.below hb (Nat.le_refl _))
  replace xL1 := Lib.hid (xL1.out.below hb (Nat.le_refl _))
  replace hb0 := below_step hb0 hb
  replace T0 := Lib.hid (T0.out.below hb)
  clear hb
  go_wp2_with fail
  have CC := Lib.hid (v_any ⟨#[98]⟩ 1 w8)
  refine CC.out.mono ?_
  clear CC
  rintro e w9 ⟨rfl, hb⟩
  replace xm := Lib.hid (xm.out.below hb (Nat.le_refl _))
  replace xa := Lib.hid (xa.out.below hb (Nat.le_refl _))
  replace xb := Lib.hid (xb.out.below hb (Nat.le_refl _))
  replace xd := Lib.hid (xd.out.below hb (Nat.le_refl _))
  replace xc := Lib.hid (xc.out.below hb (Nat.le_refl _))
  replace xl := Lib.hid (xl.out.below hb (Nat.le_refl _))
  replace xL1 := Lib.hid (xL1.out.below hb (Nat.le_refl _))
  replace hb0 := below_step hb0 hb
  replace T0 := Lib.hid (T0.out.below hb)
  clear hb
  go_wp2_with fail
  have CC := Lib.hid (v_any ⟨#[99]⟩ 2 w9)
  refine CC.out.mono ?_
  clear CC
  rintro e w10 ⟨rfl, hb⟩
  replace xm := Lib.hid (xm.out.below hb (Nat.le_refl _))
  replace xa := Lib.hid (xa.out.below hb (Nat.le_refl _))
  replace xb := Lib.hid (xb.out.below hb (Nat.le_refl _))
  replace xd := Lib.hid (xd.out.below hb (Nat.le_refl _))
  replace xc := Lib.hid (xc.out.below hb (Nat.le_refl _))
  replace xl := Lib.hid (xl.out.below hb (Nat.le_refl _))
  replace xL1 := Lib.hid (xL1.out.below hb (Nat.le_refl _))
  replace hb0 := below_step hb0 hb
  replace T0 := Lib.hid (T0.out.below hb)
  clear hb
  go_wp2_with fail
  have CC := Lib.hid (fun (cs : Array Value) (hcs : cs = (wcs (toW [(([97], []), 0), (([98], []), 1), (([99], []), 2)])).toArray) => isP_any (.slice aL1 8 cL1) (.slice none 0 0) (.slice (some ⟨w10.heap.size, 0, none⟩) 3 3) [lstX 4, symX [109], symX [97], lstX 3, symX [98], symX [99], symX [46, 46, 46], symX [46, 46, 46]] [] [(([97], []), 0), (([98], []), 1), (([99], []), 2)] (w10.alloc (.cells cs 45)) (xL1.out.below (below_b1 _ _) (Nat.le_refl _)) smE_L1 inE_L1 (T0.out.below (below_b1 _ _)) (ps_nil _ _ _) (fun q hq => by cases hq) (by decide) (ws_new w10 _ cs _ 3 rfl hcs) rdE_L1 (by decide))
  refine (CC.out _ rfl).mono ?_
  clear CC
  rintro e w11 ⟨rfl, hb'⟩
  have hb : Below w10.heap.size w10 w11 := (below_b1 _ _).trans (hb'.mono (by rw [World.size_alloc]; exact Nat.le_succ _))
  clear hb'
  replace xm := Lib.hid (xm.out.below hb (Nat.le_refl _))
  replace xa := Lib.hid (xa.out.below hb (Nat.le_refl _))
  replace xb := Lib.hid (xb.out.below hb (Nat.le_refl _))
  replace xd := Lib.hid (xd.out.below hb (Nat.le_refl _))
  replace xc := Lib.hid (xc.out.below hb (Nat.le_refl _))
  replace xl := Lib.hid (xl.out.below hb (Nat.le_refl _))
  replace xL1 := Lib.hid (xL1.out.below hb (Nat.le_refl _))
  replace hb0 := below_step hb0 hb
  replace T0 := Lib.hid (T0.out.below hb)
  clear hb
  go_wp2_with fail
  clear xc
  clear xl
  clear xL1
  -- MARK1
  have CC := Lib.hid (Sym_any ⟨#[101, 108, 115, 101]⟩ [101, 108, 115, 101] rfl w11)
  refine CC.out.mono ?_
  clear CC
  rintro e w12 ⟨r, rfl, hx, hb⟩
  replace xm := Lib.hid (xm.out.below hb (Nat.le_refl _))
  replace xa := Lib.hid (xa.out.below hb (Nat.le_refl _))
  replace xb := Lib.hid (xb.out.below hb (Nat.le_refl _))
  replace xd := Lib.hid (xd.out.below hb (Nat.le_refl _))
  replace hb0 := below_step hb0 hb
  replace T0 := Lib.hid (T0.out.below hb)
  clear hb
  obtain ⟨ae, ce, ee, _⟩ := hx.slice
  replace ee : r = .slice ae 1 ce := ee
  subst ee
  have xe : Hid (XsAt w12 (.slice ae 1 ce) [symX [101, 108, 115, 101]]) := Lib.hid hx
  clear hx
  go_wp2_with fail
  have CC := Lib.hid (Sym_any ⟨#[95]⟩ [95] rfl w12)
  refine CC.out.mono ?_
  clear CC
  rintro e w13 ⟨r, rfl, hx, hb⟩
  replace xm := Lib.hid (xm.out.below hb (Nat.le_refl _))
  replace xa := Lib.hid (xa.out.below hb (Nat.le_refl _))
  replace xb := Lib.hid (xb.out.below hb (Nat.le_refl _))
  replace xd := Lib.hid (xd.out.below hb (Nat.le_refl _))
  replace xe := Lib.hid (xe.out.below hb (Nat.le_refl _))
  replace hb0 := below_step hb0 hb
  replace T0 := Lib.hid (T0.out.below hb)
  clear hb
  obtain ⟨au, cu, eu, _⟩ := hx.slice
  replace eu : r = .slice au 1 cu := eu
  subst eu
  have xu : Hid (XsAt w13 (.slice au 1 cu) [symX [95]]) := Lib.hid hx
  clear hx
  go_wp2_with fail
  have CC := Lib.hid (Num_any 5 w13)
  refine CC.out.mono ?_
  clear CC
  rintro e w14 ⟨r, rfl, hx, hb⟩
  replace xm := Lib.hid (xm.out.below hb (Nat.le_refl _))
  replace xa := Lib.hid (xa.out.below hb (Nat.le_refl _))
  replace xb := Lib.hid (xb.out.below hb (Nat.le_refl _))
  replace xd := Lib.hid (xd.out.below hb (Nat.le_refl _))
  replace xe := Lib.hid (xe.out.below hb (Nat.le_refl _))
  replace xu := Lib.hid (xu.out.below hb (Nat.le_refl _))
  replace hb0 := below_step hb0 hb
  replace T0 := Lib.hid (T0.out.below hb)
  clear hb
  obtain ⟨an, cn, en, _⟩ := hx.slice
  replace en : r = .slice an 1 cn := en
  subst en
  have xn : Hid (XsAt w14 (.slice an 1 cn) [numX 5]) := Lib.hid hx
  clear hx
  go_wp2_with fail
  have CC := Lib.hid (List_any [(.slice am 1 cm, [symX [109]]), (.slice ae 1 ce, [symX [101, 108, 115, 101]]), (.slice aa 1 ca, [symX [97]]), (.slice au 1 cu, [symX [95]]), (.slice an 1 cn, [numX 5])] 5 rfl w14 _ rfl (by
      intro q hq
      simp only [List.mem_cons, List.not_mem_nil, or_false] at hq
      rcases hq with rfl | rfl | rfl | rfl | rfl
      · exact ⟨xm.out, by simp⟩
      · exact ⟨xe.out, by simp⟩
      · exact ⟨xa.out, by simp⟩
      · exact ⟨xu.out, by simp⟩
      · exact ⟨xn.out, by simp⟩
      ) (by
      intro q hq
      simp only [List.mem_cons, List.not_mem_nil, or_false] at hq
      rcases hq with rfl | rfl | rfl | rfl | rfl
      · exact (by simp)
      · exact (by simp)
      · exact (by simp)
      · exact (by simp)
      · exact (by simp)
      ) (by decide) (by decide))
  refine CC.out.mono ?_
  clear CC
  rintro e w15 ⟨r, rfl, hx, hb⟩
  replace xm := Lib.hid (xm.out.below hb (Nat.le_refl _))
  replace xa := Lib.hid (xa.out.below hb (Nat.le_refl _))
  replace xb := Lib.hid (xb.out.below hb (Nat.le_refl _))
  replace xd := Lib.hid (xd.out.below hb (Nat.le_refl _))
  replace xe := Lib.hid (xe.out.below hb (Nat.le_refl _))
  replace xu := Lib.hid (xu.out.below hb (Nat.le_refl _))
  replace xn := Lib.hid (xn.out.below hb (Nat.le_refl _))
  replace hb0 := below_step hb0 hb
  replace T0 := Lib.hid (T0.out.below hb)
  clear hb
  obtain ⟨aL2, cL2, eL2, _⟩ := hx.slice
  replace eL2 : r = .slice aL2 6 cL2 := eL2
  subst eL2
  have xL2 : Hid (XsAt w15 (.slice aL2 6 cL2) [lstX 5, symX [109], symX [101, 108, 115, 101], symX [97], symX [95], numX 5]) := Lib.hid hx
  clear hx
  go_wp2_with fail
  -- MARK2
  have PL : Hid (PsAt (w15.alloc (.cells #[.string ⟨#[101, 108, 115, 101]⟩, .string ⟨#[]⟩] 40)) (.slice (some ⟨w15.heap.size, 0, none⟩) 1 1) [([101, 108, 115, 101], [])]) := Lib.hid (ps_new w15 [([101, 108, 115, 101], [])] _ _ 1 rfl rfl)
  obtain ⟨qL, hqL⟩ : ∃ q, w15.heap.size = q := ⟨_, rfl⟩
  obtain ⟨wL, hwL⟩ : ∃ q, w15.alloc (.cells #[.string ⟨#[101, 108, 115, 101]⟩, .string ⟨#[]⟩] 40) = q := ⟨_, rfl⟩
  have hb : Below w15.heap.size w15 wL := by rw [← hwL]; exact below_b1 _ _
  replace xm := Lib.hid (xm.out.below hb (Nat.le_refl _))
  replace xa := Lib.hid (xa.out.below hb (Nat.le_refl _))
  replace xb := Lib.hid (xb.out.below hb (Nat.le_refl _))
  replace xd := Lib.hid (xd.out.below hb (Nat.le_refl _))
  replace xe := Lib.hid (xe.out.below hb (Nat.le_refl _))
  replace xu := Lib.hid (xu.out.below hb (Nat.le_refl _))
  replace xn := Lib.hid (xn.out.below hb (Nat.le_refl _))
  replace xL2 := Lib.hid (xL2.out.below hb (Nat.le_refl _))
  replace hb0 := below_step hb0 hb
  replace T0 := Lib.hid (T0.out.below hb)
  clear hb
  rw [hwL, hqL] at PL
  rw [show w15.alloc (.cells #[.string ⟨#[101, 108, 115, 101]⟩, .string ⟨#[]⟩] 40) = wL from hwL, hqL]
  clear hwL hqL
  have CC := Lib.hid (v_any ⟨#[97]⟩ 0 wL)
  refine CC.out.mono ?_
  clear CC
  rintro e w16 ⟨rfl, hb⟩
  replace PL := Lib.hid (PL.out.below hb (Nat.le_refl _))
  replace xm := Lib.hid (xm.out.below hb (Nat.le_refl _))
  replace xa := Lib.hid (xa.out.below hb (Nat.le_refl _))
  replace xb := Lib.hid (xb.out.below hb (Nat.le_refl _))
  replace xd := Lib.hid (xd.out.below hb (Nat.le_refl _))
  replace xe := Lib.hid (xe.out.below hb (Nat.le_refl _))
  replace xu := Lib.hid (xu.out.below hb (Nat.le_refl _))
  replace xn := Lib.hid (xn.out.below hb (Nat.le_refl _))
  replace xL2 := Lib.hid (xL2.out.below hb (Nat.le_refl _))
  replace hb0 := below_step hb0 hb
  replace T0 := Lib.hid (T0.out.below hb)
  clear hb
  go_wp2_with fail
  have CC := Lib.hid (fun (cs : Array Value) (hcs : cs = (wcs (toW [(([97], []), 0)])).toArray) => isP_any (.slice aL2 6 cL2) (.slice (some ⟨qL, 0, none⟩) 1 1) (.slice (some ⟨w16.heap.size, 0, none⟩) 1 1) [lstX 5, symX [109], symX [101, 108, 115, 101], symX [97], symX [95], numX 5] [([101, 108, 115, 101], [])] [(([97], []), 0)] (w16.alloc (.cells cs 45)) (xL2.out.below (below_b1 _ _) (Nat.le_refl _)) smE_L2 inE_L2 (T0.out.below (below_b1 _ _)) (PL.out.below (below_b1 _ _) (Nat.le_refl _)) (fun q hq => by rw [List.mem_singleton.1 hq]; exact ⟨by decide, by decide⟩) (by decide) (ws_new w16 _ cs _ 1 rfl hcs) rdE_L2 (by decide))
  refine (CC.out _ rfl).mono ?_
  clear CC
  rintro e w17 ⟨rfl, hb'⟩
  have hb : Below w16.heap.size w16 w17 := (below_b1 _ _).trans (hb'.mono (by rw [World.size_alloc]; exact Nat.le_succ _))
  clear hb'
  replace xm := Lib.hid (xm.out.below hb (Nat.le_refl _))
  replace xa := Lib.hid (xa.out.below hb (Nat.le_refl _))
  replace xb := Lib.hid (xb.out.below hb (Nat.le_refl _))
  replace xd := Lib.hid (xd.out.below hb (Nat.le_refl _))
  replace xe := Lib.hid (xe.out.below hb (Nat.le_refl _))
  replace xu := Lib.hid (xu.out.below hb (Nat.le_refl _))
  replace xn := Lib.hid (xn.out.below hb (Nat.le_refl _))
  replace xL2 := Lib.hid (xL2.out.below hb (Nat.le_refl _))
  replace hb0 := below_step hb0 hb
  replace T0 := Lib.hid (T0.out.below hb)
  clear hb
  go_wp2_with fail
  clear PL
  clear xe
  clear xu
  clear xn
  clear xL2
  -- MARK3
  have CC := Lib.hid (List_any [(.slice am 1 cm, [symX [109]]), (.slice aa 1 ca, [symX [97]]), (.slice ad 1 cd, [symX [46, 46, 46]]), (.slice ab 1 cb, [symX [98]])] 4 rfl w17 _ rfl (by
      intro q hq
      simp only [List.mem_cons, List.not_mem_nil, or_false] at hq
      rcases hq with rfl | rfl | rfl | rfl
      · exact ⟨xm.out, by simp⟩
      · exact ⟨xa.out, by simp⟩
      · exact ⟨xd.out, by simp⟩
      · exact ⟨xb.out, by simp⟩
      ) (by
      intro q hq
      simp only [List.mem_cons, List.not_mem_nil, or_false] at hq
      rcases hq with rfl | rfl | rfl | rfl
      · exact (by simp)
      · exact (by simp)
      · exact (by simp)
      · exact (by simp)
      ) (by decide) (by decide))
  refine CC.out.mono ?_
  clear CC
  rintro e w18 ⟨r, rfl, hx, hb⟩
  replace xm := Lib.hid (xm.out.below hb (Nat.le_refl _))
  replace xa := Lib.hid (xa.out.below hb (Nat.le_refl _))
  replace xb := Lib.hid (xb.out.below hb (Nat.le_refl _))
  replace xd := Lib.hid (xd.out.below hb (Nat.le_refl _))
  replace hb0 := below_step hb0 hb
  replace T0 := Lib.hid (T0.out.below hb)
  clear hb
  obtain ⟨aL3, cL3, eL3, _⟩ := hx.slice
  replace eL3 : r = .slice aL3 5 cL3 := eL3
  subst eL3
  have xL3 : Hid (XsAt w18 (.slice aL3 5 cL3) [lstX 4, symX [109], symX [97], symX [46, 46, 46], symX [98]]) := Lib.hid hx
  clear hx
  go_wp2_with fail
  have CC := Lib.hid (v_any ⟨#[97]⟩ 1 w18)
  refine CC.out.mono ?_
  clear CC
  rintro e w19 ⟨rfl, hb⟩
  replace xm := Lib.hid (xm.out.below hb (Nat.le_refl _))
  replace xa := Lib.hid (xa.out.below hb (Nat.le_refl _))
  replace xb := Lib.hid (xb.out.below hb (Nat.le_refl _))
  replace xd := Lib.hid (xd.out.below hb (Nat.le_refl _))
  replace xL3 := Lib.hid (xL3.out.below hb (Nat.le_refl _))
  replace hb0 := below_step hb0 hb
  replace T0 := Lib.hid (T0.out.below hb)
  clear hb
  go_wp2_with fail
  have CC := Lib.hid (v_any ⟨#[98]⟩ 0 w19)
  refine CC.out.mono ?_
  clear CC
  rintro e w20 ⟨rfl, hb⟩
  replace xm := Lib.hid (xm.out.below hb (Nat.le_refl _))
  replace xa := Lib.hid (xa.out.below hb (Nat.le_refl _))
  replace xb := Lib.hid (xb.out.below hb (Nat.le_refl _))
  replace xd := Lib.hid (xd.out.below hb (Nat.le_refl _))
  replace xL3 := Lib.hid (xL3.out.below hb (Nat.le_refl _))
  replace hb0 := below_step hb0 hb
  replace T0 := Lib.hid (T0.out.below hb)
  clear hb
  go_wp2_with fail
  have CC := Lib.hid (fun (cs : Array Value) (hcs : cs = (wcs (toW [(([97], []), 1), (([98], []), 0)])).toArray) => isP_any (.slice aL3 5 cL3) (.slice none 0 0) (.slice (some ⟨w20.heap.size, 0, none⟩) 2 2) [lstX 4, symX [109], symX [97], symX [46, 46, 46], symX [98]] [] [(([97], []), 1), (([98], []), 0)] (w20.alloc (.cells cs 45)) (xL3.out.below (below_b1 _ _) (Nat.le_refl _)) smE_L3 inE_L3 (T0.out.below (below_b1 _ _)) (ps_nil _ _ _) (fun q hq => by cases hq) (by decide) (ws_new w20 _ cs _ 2 rfl hcs) rdE_L3 (by decide))
  refine (CC.out _ rfl).mono ?_
  clear CC
  rintro e w21 ⟨rfl, hb'⟩
  have hb : Below w20.heap.size w20 w21 := (below_b1 _ _).trans (hb'.mono (by rw [World.size_alloc]; exact Nat.le_succ _))
  clear hb'
  replace xm := Lib.hid (xm.out.below hb (Nat.le_refl _))
  replace xa := Lib.hid (xa.out.below hb (Nat.le_refl _))
  replace xb := Lib.hid (xb.out.below hb (Nat.le_refl _))
  replace xd := Lib.hid (xd.out.below hb (Nat.le_refl _))
  replace xL3 := Lib.hid (xL3.out.below hb (Nat.le_refl _))
  replace hb0 := below_step hb0 hb
  replace T0 := Lib.hid (T0.out.below hb)
  clear hb
  go_wp2_with fail
  clear xL3
  have CC := Lib.hid (List_any [(.slice am 1 cm, [symX [109]]), (.slice aa 1 ca, [symX [97]]), (.slice aa 1 ca, [symX [97]])] 3 rfl w21 _ rfl (by
      intro q hq
      simp only [List.mem_cons, List.not_mem_nil, or_false] at hq
      rcases hq with rfl | rfl | rfl
      · exact ⟨xm.out, by simp⟩
      · exact ⟨xa.out, by simp⟩
      · exact ⟨xa.out, by simp⟩
      ) (by
      intro q hq
      simp only [List.mem_cons, List.not_mem_nil, or_false] at hq
      rcases hq with rfl | rfl | rfl
      · exact (by simp)
      · exact (by simp)
      · exact (by simp)
      ) (by decide) (by decide))
  refine CC.out.mono ?_
  clear CC
  rintro e w22 ⟨r, rfl, hx, hb⟩
  replace xm := Lib.hid (xm.out.below hb (Nat.le_refl _))
  replace xa := Lib.hid (xa.out.below hb (Nat.le_refl _))
  replace xb := Lib.hid (xb.out.below hb (Nat.le_refl _))
  replace xd := Lib.hid (xd.out.below hb (Nat.le_refl _))
  replace hb0 := below_step hb0 hb
  replace T0 := Lib.hid (T0.out.below hb)
  clear hb
  obtain ⟨aL4, cL4, eL4, _⟩ := hx.slice
  replace eL4 : r = .slice aL4 4 cL4 := eL4
  subst eL4
  have xL4 : Hid (XsAt w22 (.slice aL4 4 cL4) [lstX 3, symX [109], symX [97], symX [97]]) := Lib.hid hx
  clear hx
  go_wp2_with fail
  have CC := Lib.hid (hasP_any (.slice aL4 4 cL4) [lstX 3, symX [109], symX [97], symX [97]] 3 8 w22 xL4.out smE_L4 inE_L4 T0.out rdE_L4)
  refine CC.out.mono ?_
  clear CC
  rintro e w23 ⟨rfl, hb⟩
  replace xm := Lib.hid (xm.out.below hb (Nat.le_refl _))
  replace xa := Lib.hid (xa.out.below hb (Nat.le_refl _))
  replace xb := Lib.hid (xb.out.below hb (Nat.le_refl _))
  replace xd := Lib.hid (xd.out.below hb (Nat.le_refl _))
  replace xL4 := Lib.hid (xL4.out.below hb (Nat.le_refl _))
  replace hb0 := below_step hb0 hb
  replace T0 := Lib.hid (T0.out.below hb)
  clear hb
  go_wp2_with fail
  clear xL4
  have CC := Lib.hid (List_any [(.slice am 1 cm, [symX [109]]), (.slice ad 1 cd, [symX [46, 46, 46]]), (.slice aa 1 ca, [symX [97]])] 3 rfl w23 _ rfl (by
      intro q hq
      simp only [List.mem_cons, List.not_mem_nil, or_false] at hq
      rcases hq with rfl | rfl | rfl
      · exact ⟨xm.out, by simp⟩
      · exact ⟨xd.out, by simp⟩
      · exact ⟨xa.out, by simp⟩
      ) (by
      intro q hq
      simp only [List.mem_cons, List.not_mem_nil, or_false] at hq
      rcases hq with rfl | rfl | rfl
      · exact (by simp)
      · exact (by simp)
      · exact (by simp)
      ) (by decide) (by decide))
  refine CC.out.mono ?_
  clear CC
  rintro e w24 ⟨r, rfl, hx, hb⟩
  replace xm := Lib.hid (xm.out.below hb (Nat.le_refl _))
  replace xa := Lib.hid (xa.out.below hb (Nat.le_refl _))
  replace xb := Lib.hid (xb.out.below hb (Nat.le_refl _))
  replace xd := Lib.hid (xd.out.below hb (Nat.le_refl _))
  replace hb0 := below_step hb0 hb
  replace T0 := Lib.hid (T0.out.below hb)
  clear hb
  obtain ⟨aL5, cL5, eL5, _⟩ := hx.slice
  replace eL5 : r = .slice aL5 4 cL5 := eL5
  subst eL5
  have xL5 : Hid (XsAt w24 (.slice aL5 4 cL5) [lstX 3, symX [109], symX [46, 46, 46], symX [97]]) := Lib.hid hx
  clear hx
  go_wp2_with fail
  have CC := Lib.hid (hasP_any (.slice aL5 4 cL5) [lstX 3, symX [109], symX [46, 46, 46], symX [97]] 2 6 w24 xL5.out smE_L5 inE_L5 T0.out rdE_L5)
  refine CC.out.mono ?_
  clear CC
  rintro e w25 ⟨rfl, hb⟩
  replace xm := Lib.hid (xm.out.below hb (Nat.le_refl _))
  replace xa := Lib.hid (xa.out.below hb (Nat.le_refl _))
  replace xb := Lib.hid (xb.out.below hb (Nat.le_refl _))
  replace xd := Lib.hid (xd.out.below hb (Nat.le_refl _))
  replace xL5 := Lib.hid (xL5.out.below hb (Nat.le_refl _))
  replace hb0 := below_step hb0 hb
  replace T0 := Lib.hid (T0.out.below hb)
  clear hb
  go_wp2_with fail
  clear xL5
  have CC := Lib.hid (List_any [(.slice am 1 cm, [symX [109]]), (.slice aa 1 ca, [symX [97]]), (.slice ad 1 cd, [symX [46, 46, 46]]), (.slice ab 1 cb, [symX [98]]), (.slice ad 1 cd, [symX [46, 46, 46]])] 5 rfl w25 _ rfl (by
      intro q hq
      simp only [List.mem_cons, List.not_mem_nil, or_false] at hq
      rcases hq with rfl | rfl | rfl | rfl | rfl
      · exact ⟨xm.out, by simp⟩
      · exact ⟨xa.out, by simp⟩
      · exact ⟨xd.out, by simp⟩
      · exact ⟨xb.out, by simp⟩
      · exact ⟨xd.out, by simp⟩
      ) (by
      intro q hq
      simp only [List.mem_cons, List.not_mem_nil, or_false] at hq
      rcases hq with rfl | rfl | rfl | rfl | rfl
      · exact (by simp)
      · exact (by simp)
      · exact (by simp)
      · exact (by simp)
      · exact (by simp)
      ) (by decide) (by decide))
  refine CC.out.mono ?_
  clear CC
  rintro e w26 ⟨r, rfl, hx, hb⟩
  replace xm := Lib.hid (xm.out.below hb (Nat.le_refl _))
  replace xa := Lib.hid (xa.out.below hb (Nat.le_refl _))
  replace xb := Lib.hid (xb.out.below hb (Nat.le_refl _))
  replace xd := Lib.hid (xd.out.below hb (Nat.le_refl _))
  replace hb0 := below_step hb0 hb
  replace T0 := Lib.hid (T0.out.below hb)
  clear hb
  obtain ⟨aL6, cL6, eL6, _⟩ := hx.slice
  replace eL6 : r = .slice aL6 6 cL6 := eL6
  subst eL6
  have xL6 : Hid (XsAt w26 (.slice aL6 6 cL6) [lstX 5, symX [109], symX [97], symX [46, 46, 46], symX [98], symX [46, 46, 46]]) := Lib.hid hx
  clear hx
  go_wp2_with fail
  have CC := Lib.hid (hasP_any (.slice aL6 6 cL6) [lstX 5, symX [109], symX [97], symX [46, 46, 46], symX [98], symX [46, 46, 46]] 5 6 w26 xL6.out smE_L6 inE_L6 T0.out rdE_L6)
  refine CC.out.mono ?_
  clear CC
  rintro e w27 ⟨rfl, hb⟩
  replace xm := Lib.hid (xm.out.below hb (Nat.le_refl _))
  replace xa := Lib.hid (xa.out.below hb (Nat.le_refl _))
  replace xb := Lib.hid (xb.out.below hb (Nat.le_refl _))
  replace xd := Lib.hid (xd.out.below hb (Nat.le_refl _))
  replace xL6 := Lib.hid (xL6.out.below hb (Nat.le_refl _))
  replace hb0 := below_step hb0 hb
  replace T0 := Lib.hid (T0.out.below hb)
  clear hb
  go_wp2_with fail
  clear xL6
  have CC := Lib.hid (hasP_any (.slice am 1 cm) [symX [109]] 0 6 w27 xm.out smE_m inE_m T0.out rdE_m)
  refine CC.out.mono ?_
  clear CC
  rintro e w28 ⟨rfl, hb⟩
  replace xm := Lib.hid (xm.out.below hb (Nat.le_refl _))
  replace xa := Lib.hid (xa.out.below hb (Nat.le_refl _))
  replace xb := Lib.hid (xb.out.below hb (Nat.le_refl _))
  replace xd := Lib.hid (xd.out.below hb (Nat.le_refl _))
  replace hb0 := below_step hb0 hb
  replace T0 := Lib.hid (T0.out.below hb)
  clear hb
  go_wp2_with fail
  have CC := Lib.hid (List_nil w28)
  refine CC.out.mono ?_
  clear CC
  rintro e w29 ⟨r, rfl, hx, hb⟩
  replace xm := Lib.hid (xm.out.below hb (Nat.le_refl _))
  replace xa := Lib.hid (xa.out.below hb (Nat.le_refl _))
  replace xb := Lib.hid (xb.out.below hb (Nat.le_refl _))
  replace xd := Lib.hid (xd.out.below hb (Nat.le_refl _))
  replace hb0 := below_step hb0 hb
  replace T0 := Lib.hid (T0.out.below hb)
  clear hb
  obtain ⟨aL8, cL8, eL8, _⟩ := hx.slice
  replace eL8 : r = .slice aL8 1 cL8 := eL8
  subst eL8
  have xL8 : Hid (XsAt w29 (.slice aL8 1 cL8) [lstX 0]) := Lib.hid hx
  clear hx
  go_wp2_with fail
  have CC := Lib.hid (hasP_any (.slice aL8 1 cL8) [lstX 0] 0 6 w29 xL8.out smE_L8 inE_L8 T0.out rdE_L8)
  refine CC.out.mono ?_
  clear CC
  rintro e w30 ⟨rfl, hb⟩
  replace xm := Lib.hid (xm.out.below hb (Nat.le_refl _))
  replace xa := Lib.hid (xa.out.below hb (Nat.le_refl _))
  replace xb := Lib.hid (xb.out.below hb (Nat.le_refl _))
  replace xd := Lib.hid (xd.out.below hb (Nat.le_refl _))
  replace xL8 := Lib.hid (xL8.out.below hb (Nat.le_refl _))
  replace hb0 := below_step hb0 hb
  replace T0 := Lib.hid (T0.out.below hb)
  clear hb
  go_wp2_with fail
  clear xL8
  have CC := Lib.hid (Num_any 5 w30)
  refine CC.out.mono ?_
  clear CC
  rintro e w31 ⟨r, rfl, hx, hb⟩
  replace xm := Lib.hid (xm.out.below hb (Nat.le_refl _))
  replace xa := Lib.hid (xa.out.below hb (Nat.le_refl _))
  replace xb := Lib.hid (xb.out.below hb (Nat.le_refl _))
  replace xd := Lib.hid (xd.out.below hb (Nat.le_refl _))
  replace hb0 := below_step hb0 hb
  replace T0 := Lib.hid (T0.out.below hb)
  clear hb
  obtain ⟨an2, cn2, en2, _⟩ := hx.slice
  replace en2 : r = .slice an2 1 cn2 := en2
  subst en2
  have xn2 : Hid (XsAt w31 (.slice an2 1 cn2) [numX 5]) := Lib.hid hx
  clear hx
  go_wp2_with fail
  have CC := Lib.hid (List_any [(.slice an2 1 cn2, [numX 5]), (.slice aa 1 ca, [symX [97]])] 2 rfl w31 _ rfl (by
      intro q hq
      simp only [List.mem_cons, List.not_mem_nil, or_false] at hq
      rcases hq with rfl | rfl
      · exact ⟨xn2.out, by simp⟩
      · exact ⟨xa.out, by simp⟩
      ) (by
      intro q hq
      simp only [List.mem_cons, List.not_mem_nil, or_false] at hq
      rcases hq with rfl | rfl
      · exact (by simp)
      · exact (by simp)
      ) (by decide) (by decide))
  refine CC.out.mono ?_
  clear CC
  rintro e w32 ⟨r, rfl, hx, hb⟩
  replace xm := Lib.hid (xm.out.below hb (Nat.le_refl _))
  replace xa := Lib.hid (xa.out.below hb (Nat.le_refl _))
  replace xb := Lib.hid (xb.out.below hb (Nat.le_refl _))
  replace xd := Lib.hid (xd.out.below hb (Nat.le_refl _))
  replace xn2 := Lib.hid (xn2.out.below hb (Nat.le_refl _))
  replace hb0 := below_step hb0 hb
  replace T0 := Lib.hid (T0.out.below hb)
  clear hb
  obtain ⟨aL9, cL9, eL9, _⟩ := hx.slice
  replace eL9 : r = .slice aL9 3 cL9 := eL9
  subst eL9
  have xL9 : Hid (XsAt w32 (.slice aL9 3 cL9) [lstX 2, numX 5, symX [97]]) := Lib.hid hx
  clear hx
  go_wp2_with fail
  have CC := Lib.hid (hasP_any (.slice aL9 3 cL9) [lstX 2, numX 5, symX [97]] 1 6 w32 xL9.out smE_L9 inE_L9 T0.out rdE_L9)
  refine CC.out.mono ?_
  clear CC
  rintro e w33 ⟨rfl, hb⟩
  replace xm := Lib.hid (xm.out.below hb (Nat.le_refl _))
  replace xa := Lib.hid (xa.out.below hb (Nat.le_refl _))
  replace xb := Lib.hid (xb.out.below hb (Nat.le_refl _))
  replace xd := Lib.hid (xd.out.below hb (Nat.le_refl _))
  replace xn2 := Lib.hid (xn2.out.below hb (Nat.le_refl _))
  replace xL9 := Lib.hid (xL9.out.below hb (Nat.le_refl _))
  replace hb0 := below_step hb0 hb
  replace T0 := Lib.hid (T0.out.below hb)
  clear hb
  go_wp2_with fail
  -- MARK4
  go_ret
  exact ⟨rfl, hb0⟩
-- MARK9
end Go.Proofs.YtdiinlmeoifgjaaGreatDoor
