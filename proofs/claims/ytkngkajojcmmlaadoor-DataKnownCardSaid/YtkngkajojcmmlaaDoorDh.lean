import Derived.Test.YtkngkajojcmmlaaDoorDf
import Derived.Test.YtkngkajojcmmlaaDoorDe
import Derived.Test.YtkngkajojcmmlaaDoorDg
import Derived.Test.YtkngkajojcmmlaaDoorDa
/- The reference's Same; the law's Example; what the calls of shown() give. -/
namespace Go.Proofs.YtkngkajojcmmlaaDoor
open Go.RowKit Go.PlainAid

set_option maxRecDepth 50000 in
set_option maxHeartbeats 1600000 in
theorem same4_eq (v v' : Value) (l : List Nd) (w : World) (h : NdsAt w v l) (h' : NdsAt w v' l) (hl : l.length ≤ 1000000) :
    Calls Tryd.prog 35 #[v, v'] w fun e w' => e = .returned (.bool true) ∧ Below w.heap.size w w' := by
  obtain ⟨a, c, hv⟩ := h.slice
  obtain ⟨a', c', hv'⟩ := h'.slice
  obtain ⟨n, hn⟩ : ∃ n, l.length = n := ⟨_, rfl⟩
  rw [hn] at hv hv'
  subst hv hv'
  have H := Lib.hid h
  have H' := Lib.hid h'
  have HN := Lib.hid hn
  have hnb : n ≤ 1000000 := by omega
  have hne : (((n : Int)) != (n : Int)) = false := by simp
  clear h h' hn hl
  go_enter Tryd.func35, Tryd.ntmps35
  go_wp2
  go_loopw [5] (fun i wr => ∃ k : Nat, k ≤ n ∧ i = .int .i64 k ∧ Below w.heap.size w wr) (fun i _ => n - (intOf i).toNat)
  case atStart => exact ⟨0, Nat.zero_le _, rfl, Below.refl _ _⟩
  case round =>
    obtain ⟨k, hk, rfl, hB⟩ := hrel
    by_cases hlt : k < n
    · obtain ⟨s, hs⟩ : ∃ s, l[k]? = some s := ⟨_, List.getElem?_eq_getElem (by rw [HN.out]; exact hlt)⟩
      rcases H.out.below hB (Nat.le_refl _) with ⟨_, _, _, hnil⟩ | ⟨g, off, cc, hv, hg, hcl⟩
      · rw [hnil] at hs; simp at hs
      · rcases H'.out.below hB (Nat.le_refl _) with ⟨_, _, _, hnil⟩ | ⟨g', off', cc', hv', hg', hcl'⟩
        · rw [hnil] at hs; simp at hs
        · obtain ⟨rfl, hv2, rfl⟩ := Value.slice.inj hv
          obtain ⟨rfl, hv3, rfl⟩ := Value.slice.inj hv'
          obtain ⟨p0, p1, p2, p3⟩ := dcs_at l hs
          have d0 := hcl _ _ p0
          have d1 := hcl _ _ p1
          have d2 := hcl _ _ p2
          have d3 := hcl _ _ p3
          have e0 := hcl' _ _ p0
          have e1 := hcl' _ _ p1
          have e2 := hcl' _ _ p2
          have e3 := hcl' _ _ p3
          have hkm : (k : Int) < (n : Int) := by omega
          have hk0 : (0 : Int) ≤ (k : Int) := Int.natCast_nonneg _
          obtain ⟨x0, x1, x2, x3⟩ := s
          obtain ⟨z, hz⟩ : ∃ z, str x3 = z := ⟨_, rfl⟩
          simp only [hz, ← Nat.add_assoc] at d0 d1 d2 d3 e0 e1 e2 e3
          clear hcl hcl' hv hv' hv2 hv3 hs p0 p1 p2 p3 hz
          go_wp2
          go_quiet (fail)
          go_wp2
          exact ⟨⟨k + 1, by omega, by go_num, ⟨hB.os, hB.tape, hB.output, hB.size, hB.block⟩⟩, by simp [intOf]; omega⟩
    · obtain rfl : k = n := by omega
      go_wp2
      go_ret
      exact ⟨rfl, hB⟩

/-- The law's example. -/
def exD : List Nd := [(4, 3, 0, []), (3, 0, 0, [97]), (4, 2, 0, []), (1, 0, 7, []), (2, 0, 1, []), (3, 0, 0, [97])]
theorem nds_new (w : World) (l : List Nd) (cs : Array Value) (T : TypeId) (n : Nat) (hcs : cs = (dcs l).toArray) (hn : n = l.length) : NdsAt (w.alloc (.cells cs T)) (.slice (some ⟨w.heap.size, 0, none⟩) n n) l := by
  subst hcs hn
  refine .inr ⟨w.heap.size, 0, l.length, rfl, by rw [World.size_alloc]; omega, fun j u hj => ?_⟩
  have := new_cells w (dcs l) T j u hj
  rw [Go.WideShapes.add_plain] at this; exact this
/-- What Example returns. -/
def ExV (w : World) (e : Ending) (w' : World) : Prop := ∃ g, e = .returned (.slice (some ⟨g, 0, none⟩) 6 6) ∧ NdsAt w' (.slice (some ⟨g, 0, none⟩) 6 6) exD ∧ Below w.heap.size w w'
set_option maxRecDepth 50000 in
set_option maxHeartbeats 1600000 in
theorem example_any (w : World) : Calls Tryd.prog 44 #[] w (ExV w) := by
  go_enter Tryd.func44, Tryd.ntmps44
  go_wp2_with fail
  -- MARK1
  go_ret
  exact ⟨_, rfl, nds_new w exD _ _ 6 rfl rfl, below_b1 _ _⟩
set_option maxRecDepth 100000 in
theorem ex_chk : chkT symS exD = (0, 0) := by decide +kernel
set_option maxRecDepth 100000 in
theorem ex_put : putE symS exD 2 [(3, 0, 0, [98])] = 0 := by decide +kernel
set_option maxRecDepth 100000 in
theorem ex_puts : putS exD 2 [(3, 0, 0, [98])] = [(4, 3, 0, []), (3, 0, 0, [97]), (3, 0, 0, [98]), (3, 0, 0, [97])] := by decide +kernel
theorem ex_at2 : atE symS exD 2 = 0 := by unfold atE; rw [ex_chk]; decide
theorem ex_at4 : atE symS exD 4 = 0 := by unfold atE; rw [ex_chk]; decide
theorem ex_end : endN (kidsL exD) 2 = 5 := by decide +kernel
theorem ex_size : sizeV symS exD 2 = .tuple #[.int .i64 3, .int .i64 0] := by unfold sizeV; rw [ex_at2, if_pos rfl]; show Value.tuple #[.int .i64 ((endN (kidsL exD) 2 : Int) - 2), _] = _; rw [ex_end]; rfl
theorem ex_fol : fol (kidsL exD) 0 [1, 1] = some 4 := by decide +kernel
theorem ex_shape : shapeS [2, 0, 1, 0] = ([4, 2, 4, 4], 0) := by decide +kernel
theorem ex_s1 : symS [97, 45, 49] = true := by decide +kernel
theorem ex_s2 : symS [45, 49] = false := by decide +kernel
theorem ex_chk2 : chkAllS symS [exD, [(3, 0, 0, [98])]] = 0 := by decide +kernel
theorem ex_kids : ∀ x ∈ [exD, [((3, 0, 0, [98]) : Nd)]], KidsB x := by
  intro x hx
  simp only [List.mem_cons, List.not_mem_nil, or_false] at hx
  rcases hx with rfl | rfl <;> (intro y hy; simp only [exD, List.mem_cons, List.not_mem_nil, or_false] at hy; rcases hy with rfl | rfl | rfl | rfl | rfl | rfl <;> decide)
theorem ex_path {l : List Int} (h : fol (kidsL exD) 0 l = some 4) : l = [1, 1] := (chkT_ok (by rw [ex_chk])).1.fol_inj _ _ 0 4 (by decide) h ex_fol
theorem symAll_of {w : World} (T : STabs w) : SymAll 16 symS w := fun s W hW => symbol_any s W (T.below hW)
end Go.Proofs.YtkngkajojcmmlaaDoor

/- The law's shown(): true. -/
namespace Go.Proofs.YtkngkajojcmmlaaDoor
open Go.RowKit Go.PlainAid

theorem intRow_new (w : World) (l : List Int) (cs : Array Value) (T : TypeId) (n : Nat) (hcs : cs = (l.map (Value.int .i64)).toArray) (hn : n = l.length) : IntRow (w.alloc (.cells cs T)) (.slice (some ⟨w.heap.size, 0, none⟩) n n) l := by
  subst hcs hn
  refine ⟨_, _, rfl, .inr ⟨w.heap.size, 0, rfl, by rw [World.size_alloc]; omega, fun j x hj => ?_⟩⟩
  have := new_cells w (l.map (Value.int .i64)) T j (.int .i64 x) (by rw [List.getElem?_map, hj]; rfl)
  rw [Go.WideShapes.add_plain] at this; exact this

set_option maxRecDepth 100000 in
set_option maxHeartbeats 6400000 in
theorem shown_any (w : World) (T : STabs w) : Calls Tryd.prog 13 #[] w fun e w' => e = .returned (.bool true) ∧ Below w.heap.size w w' := by
  have HS := Lib.hid T
  have SY : Hid (∀ W, Below w.heap.size w W → Hid (SymAll 16 symS W)) := Lib.hid fun W hW => Lib.hid (symAll_of (HS.out.below hW))
  have KX : Hid (Hid (KidsB exD)) := Lib.hid (Lib.hid (ex_kids _ (by simp)))
  have CE := Lib.hid example_any
  have CC : Hid (∀ W v, Below w.heap.size w W → NdsAt W v exD → Calls Tryd.prog 14 #[v] W fun e w' => e = .returned (.tuple #[.int .i64 0, .int .i64 0]) ∧ Below W.heap.size W w') := Lib.hid fun W v hW hN => by
    have := Check_any symS v exD W hN (SY.out W hW) KX.out
    unfold chkTV at this; rw [ex_chk] at this; exact this
  have CS : Hid (∀ W v, Below w.heap.size w W → NdsAt W v exD → Calls Tryd.prog 18 #[v, .int .i64 2] W fun e w' => e = .returned (.tuple #[.int .i64 3, .int .i64 0]) ∧ Below W.heap.size W w') := Lib.hid fun W v hW hN => by
    have := Size_any symS v exD 2 W hN (SY.out W hW) KX.out
    rw [ex_size] at this; exact this
  have CP : Hid (∀ W v, Below w.heap.size w W → NdsAt W v exD → Calls Tryd.prog 27 #[v, .int .i64 4] W fun e w' => ∃ a c, e = .returned (.tuple #[.slice a 2 c, .int .i64 0]) ∧ IntRow w' (.slice a 2 c) [1, 1] ∧ Below W.heap.size W w') := Lib.hid fun W v hW hN => by
    refine (path_ok symS v exD 4 W hN (SY.out W hW) KX.out ex_at4).mono ?_
    rintro e w' ⟨_, h2, h3⟩
    obtain ⟨v', l, rfl, hr, _, hf⟩ := h2 ex_at4
    obtain rfl := ex_path hf
    obtain ⟨a, c, rfl, hA⟩ := hr
    exact ⟨a, c, rfl, ⟨a, c, rfl, hA⟩, h3⟩
  have CT : Hid (∀ W v vs, Below w.heap.size w W → NdsAt W v exD → NdsAt W vs [(3, 0, 0, [98])] → capOk v → Calls Tryd.prog 36 #[v, .int .i64 2, vs] W fun e w' => ∃ a c, e = .returned (.tuple #[.slice a 4 c, .int .i64 0]) ∧ NdsAt w' (.slice a 4 c) [(4, 3, 0, []), (3, 0, 0, [97]), (3, 0, 0, [98]), (3, 0, 0, [97])] ∧ Below W.heap.size W w') := Lib.hid fun W v vs hW hN hN2 hcap => by
    refine (put_in symS v vs exD [(3, 0, 0, [98])] 2 W hN hN2 (SY.out W hW) (Lib.hid ex_kids) ex_chk2 ex_at2 hcap).mono ?_
    rintro e w' ⟨v', rfl, _, h3, h4⟩
    have h5 := (h3 ex_put).1
    rw [show ((2 : Nat) : Int).toNat = 2 from rfl, ex_puts] at h5
    obtain ⟨a, c, rfl⟩ := h5.slice
    exact ⟨a, c, by rw [show ((2 : Nat) : Int) = 2 from rfl, ex_put]; rfl, h5, h4⟩
  have CSh : Hid (∀ W v, IntRow W v [2, 0, 1, 0] → Calls Tryd.prog 38 #[v] W fun e w' => ∃ a c, e = .returned (.tuple #[.slice a 4 c, .int .i64 0]) ∧ IntRow w' (.slice a 4 c) [4, 2, 4, 4] ∧ Below W.heap.size W w') := Lib.hid fun W v hr => by
    refine (Shape_any v _ W hr).mono ?_
    rintro e w' ⟨v', rfl, h1, h2⟩
    rw [ex_shape] at h1 ⊢
    obtain ⟨a, c, rfl, hA⟩ := h1
    exact ⟨a, c, rfl, ⟨a, c, rfl, hA⟩, h2⟩
  have CI : Hid (∀ W v v' l, IntRow W v l → IntRow W v' l → l.length ≤ 1000000 → Calls Tryd.prog 22 #[v, v'] W fun e w' => e = .returned (.bool true) ∧ Below W.heap.size W w') := Lib.hid fun W v v' l h1 h2 hl => by
    have := ints4_any v v' l l W h1 h2 hl
    rw [decide_eq_true rfl] at this; exact this
  have CM : Hid (∀ W v v' l, NdsAt W v l → NdsAt W v' l → l.length ≤ 1000000 → Calls Tryd.prog 35 #[v, v'] W fun e w' => e = .returned (.bool true) ∧ Below W.heap.size W w') := Lib.hid fun W v v' l h1 h2 hl => same4_eq v v' l W h1 h2 hl
  have CY : Hid (∀ W (s : List UInt8) b, Below w.heap.size w W → symS s = b → Calls Tryd.prog 16 #[.string (str s)] W fun e w' => e = .returned (.bool b) ∧ Below W.heap.size W w') := Lib.hid fun W s b hW hs => by
    have := symbol_any s W (HS.out.below hW); rw [hs] at this; exact this
  clear T
  go_enter Tryd.func13, Tryd.ntmps13
  go_wp2_with fail
  refine (CE.out _).mono ?_
  rintro e w1 ⟨g1, rfl, hN1, hB1⟩
  go_wp2_with fail
  refine (CC.out w1 _ hB1 hN1).mono ?_
  rintro e w2 ⟨rfl, hb2⟩
  have hB2 := hB1.trans (hb2.mono hB1.size)
  clear hN1
  go_wp2_with fail
  refine (CE.out _).mono ?_
  rintro e w3 ⟨g3, rfl, hN3, hb3⟩
  have hB3 := hB2.trans (hb3.mono hB2.size)
  go_wp2_with fail
  refine (CS.out w3 _ hB3 hN3).mono ?_
  rintro e w4 ⟨rfl, hb4⟩
  have hB4 := hB3.trans (hb4.mono hB3.size)
  clear hN3
  go_wp2_with fail
  refine (CE.out _).mono ?_
  rintro e w5 ⟨g5, rfl, hN5, hb5⟩
  have hB5 := hB4.trans (hb5.mono hB4.size)
  go_wp2_with fail
  refine (CP.out w5 _ hB5 hN5).mono ?_
  rintro e w6 ⟨a6, c6, rfl, hR6, hb6⟩
  have hB6 := hB5.trans (hb6.mono hB5.size)
  have HR6 := Lib.hid hR6
  clear hN5 hR6
  go_wp2_with fail
  refine (CE.out _).mono ?_
  rintro e w7 ⟨g7, rfl, hN7, hb7⟩
  have hB7 := hB6.trans (hb7.mono hB6.size)
  have HN7 := Lib.hid hN7
  clear hN7
  go_wp2_with fail
  -- MARK1
  have hbs := below_b1 w7 (.cells #[.int .i64 3, .int .i64 0, .int .i64 0, .string ⟨#[98]⟩] 48)
  refine (CT.out _ _ _ (hB7.trans (hbs.mono hB7.size)) (HN7.out.below hbs (Nat.le_refl _)) (nds_new w7 [(3, 0, 0, [98])] _ _ 1 rfl rfl) (fun a n c e => by cases e; exact Nat.le_refl _)).mono ?_
  rintro e w8 ⟨a8, c8, rfl, hN8, hb8⟩
  have hb78 := hbs.trans (hb8.mono hbs.size)
  have hB8 := hB7.trans (hb78.mono hB7.size)
  have HN8 := Lib.hid hN8
  have HR8 := Lib.hid (HR6.out.below (hb7.trans (hb78.mono hb7.size)))
  clear hN8 hbs hb8
  go_wp2_with fail
  -- MARK2
  have hbt := below_b1 w8 (.cells #[.int .i64 2, .int .i64 0, .int .i64 1, .int .i64 0] 3)
  refine (CSh.out _ _ (intRow_new w8 [2, 0, 1, 0] _ _ 4 rfl rfl)).mono ?_
  rintro e w9 ⟨a9, c9, rfl, hR9, hb9⟩
  have hb89 := hbt.trans (hb9.mono hbt.size)
  have hB9 := hB8.trans (hb89.mono hB8.size)
  have HR9 := Lib.hid hR9
  have HN9 := Lib.hid (HN8.out.below hb89 (Nat.le_refl _))
  have HR69 := Lib.hid (HR8.out.below hb89)
  clear hR9 hbt hb9 HN7 HN8 HR6 HR8
  go_wp2_with fail
  -- MARK3
  have hbu := below_b1 w9 (.cells #[.int .i64 1, .int .i64 1] 3)
  refine (CI.out _ _ _ [1, 1] (HR69.out.below hbu) (intRow_new w9 [1, 1] _ _ 2 rfl rfl) (by decide)).mono ?_
  rintro e w10 ⟨rfl, hb10⟩
  have hb910 := hbu.trans (hb10.mono hbu.size)
  have hB10 := hB9.trans (hb910.mono hB9.size)
  clear hbu hb10
  go_wp2_with fail
  -- MARK4
  have hbv := below_b1 w10 (.cells #[.int .i64 4, .int .i64 3, .int .i64 0, .string ⟨#[]⟩, .int .i64 3, .int .i64 0, .int .i64 0, .string ⟨#[97]⟩, .int .i64 3, .int .i64 0, .int .i64 0, .string ⟨#[98]⟩, .int .i64 3, .int .i64 0, .int .i64 0, .string ⟨#[97]⟩] 48)
  refine (CM.out _ _ _ [(4, 3, 0, []), (3, 0, 0, [97]), (3, 0, 0, [98]), (3, 0, 0, [97])] ((HN9.out.below hb910 (Nat.le_refl _)).below hbv (Nat.le_refl _)) (nds_new w10 _ _ _ 4 rfl rfl) (by decide)).mono ?_
  rintro e w11 ⟨rfl, hb11⟩
  have hb1011 := hbv.trans (hb11.mono hbv.size)
  have hb911 := hb910.trans (hb1011.mono hb910.size)
  have hB11 := hB9.trans (hb911.mono hB9.size)
  clear hbv hb11
  go_wp2_with fail
  -- MARK5
  have hbx := below_b1 w11 (.cells #[.int .i64 4, .int .i64 2, .int .i64 4, .int .i64 4] 3)
  refine (CI.out _ _ _ [4, 2, 4, 4] ((HR9.out.below hb911).below hbx) (intRow_new w11 [4, 2, 4, 4] _ _ 4 rfl rfl) (by decide)).mono ?_
  rintro e w12 ⟨rfl, hb12⟩
  have hB12 := hB11.trans ((hbx.trans (hb12.mono hbx.size)).mono hB11.size)
  go_wp2_with fail
  -- MARK6
  refine (CY.out w12 [97, 45, 49] true hB12 ex_s1).mono ?_
  rintro e w13 ⟨rfl, hb13⟩
  have hB13 := hB12.trans (hb13.mono hB12.size)
  go_wp2_with fail
  refine (CY.out w13 [45, 49] false hB13 ex_s2).mono ?_
  rintro e w14 ⟨rfl, hb14⟩
  have hB14 := hB13.trans (hb14.mono hB13.size)
  go_wp2_with fail
  -- MARK7
  go_ret
  exact ⟨rfl, hB14⟩
end Go.Proofs.YtkngkajojcmmlaaDoor
