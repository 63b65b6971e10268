/- Sub, Kids, Parent, At (the program's), walked. -/
import Derived.Test.YtkngkajojcmmlaaDoorDsubs
namespace Go.Proofs.YtkngkajojcmmlaaDoor
open Go.RowKit Go.Shelf Go.PlainAid

set_option maxRecDepth 50000 in
set_option maxHeartbeats 1600000 in
theorem Sub_bad (sy : List UInt8 → Bool) (v : Value) (t : List Nd) (i : Int) (w : World) (h : NdsAt w v t) (HS : Hid (SymAll 16 sy w)) (KB : Hid (KidsB t)) (hz : atE sy t i ≠ 0) :
    Calls Tryd.prog 31 #[v, .int .i64 i] w (SubV sy t i w) := by
  have C := Lib.hid (treeWith_any sy v t i w h HS KB)
  obtain ⟨a, c, rfl⟩ := h.slice
  have hne : (atE sy t i != 0) = true := bne_iff_ne.2 hz
  have HZ := Lib.hid hz
  clear h HS KB hz
  go_enter Tryd.func31, Tryd.ntmps31
  go_wp2_with fail
  refine C.out.mono ?_
  rintro e' w2 ⟨hbad, _, hb2⟩
  obtain rfl := hbad HZ.out
  unfold zeroTree
  clear hbad
  go_wp2_with fail
  go_ret2
  exact ⟨fun _ => rfl, fun h => absurd h HZ.out, hb2.alloc hb2.size _⟩

set_option maxRecDepth 50000 in
set_option maxHeartbeats 1600000 in
theorem Kids_bad (sy : List UInt8 → Bool) (v : Value) (t : List Nd) (i : Int) (w : World) (h : NdsAt w v t) (HS : Hid (SymAll 16 sy w)) (KB : Hid (KidsB t)) (hz : atE sy t i ≠ 0) :
    Calls Tryd.prog 20 #[v, .int .i64 i] w (KidsV sy t i w) := by
  have C := Lib.hid (treeWith_any sy v t i w h HS KB)
  obtain ⟨a, c, rfl⟩ := h.slice
  have hne : (atE sy t i != 0) = true := bne_iff_ne.2 hz
  have HZ := Lib.hid hz
  clear h HS KB hz
  go_enter Tryd.func20, Tryd.ntmps20
  go_wp2_with fail
  refine C.out.mono ?_
  rintro e' w2 ⟨hbad, _, hb2⟩
  obtain rfl := hbad HZ.out
  unfold zeroTree
  clear hbad
  go_wp2_with fail
  go_ret2
  exact ⟨fun _ => rfl, fun h => absurd h HZ.out, hb2.alloc hb2.size _⟩

set_option maxRecDepth 50000 in
set_option maxHeartbeats 1600000 in
theorem Parent_bad (sy : List UInt8 → Bool) (v : Value) (t : List Nd) (i : Int) (w : World) (h : NdsAt w v t) (HS : Hid (SymAll 16 sy w)) (KB : Hid (KidsB t)) (hz : atE sy t i ≠ 0) :
    Calls Tryd.prog 23 #[v, .int .i64 i] w fun e w' => e = .returned (parV sy t i) ∧ Below w.heap.size w w' := by
  have C := Lib.hid (treeWith_any sy v t i w h HS KB)
  obtain ⟨a, c, rfl⟩ := h.slice
  have hne : (atE sy t i != 0) = true := bne_iff_ne.2 hz
  have HZ := Lib.hid hz
  clear h HS KB hz
  go_enter Tryd.func23, Tryd.ntmps23
  go_wp2_with fail
  refine C.out.mono ?_
  rintro e' w2 ⟨hbad, _, hb2⟩
  obtain rfl := hbad HZ.out
  unfold zeroTree
  clear hbad
  go_wp2_with fail
  go_ret2
  exact ⟨by unfold parV; rw [if_pos HZ.out]; rfl, hb2.alloc hb2.size _⟩


/-- A datum, in memory. -/
theorem NdsAt.some {w : World} {v : Value} {t : List Nd} (h : NdsAt w v t) (hne : t ≠ []) : ∃ g off cap, v = .slice (some ⟨g, off, none⟩) t.length cap ∧ g < w.heap.size ∧ ∀ (j : Nat) (u : Value), (dcs t)[j]? = some u → w.cell? ⟨g, off + j, none⟩ = some u := by
  rcases h with ⟨_, _, _, rfl⟩ | h
  · exact absurd rfl hne
  · exact h
theorem subS_len {t : List Nd} {i q : Nat} (hq : endN (kidsL t) i = q) (hqn : q ≤ t.length) : (subS t i).length = q - i := by
  unfold subS; rw [hq, List.length_drop, List.length_take, Nat.min_eq_left hqn]
theorem subS_cells {t : List Nd} {i q : Nat} (hq : endN (kidsL t) i = q) (j : Nat) (u : Value) (h : (dcs (subS t i))[j]? = some u) : (dcs t)[i * 4 + j]? = some u := by
  unfold subS at h
  rw [hq, dcs_drop, dcs_take, List.getElem?_drop, List.getElem?_take] at h
  split at h
  · exact h
  · cases h

set_option maxRecDepth 50000 in
set_option maxHeartbeats 3200000 in
theorem Sub_ok (sy : List UInt8 → Bool) (v : Value) (t : List Nd) (i : Nat) (w : World) (h : NdsAt w v t) (HS : Hid (SymAll 16 sy w)) (KB : Hid (KidsB t)) (hz : atE sy t (i : Int) = 0) (hcv : capOk v) :
    Calls Tryd.prog 31 #[v, .int .i64 (i : Int)] w (SubV sy t (i : Int) w) := by
  have C := Lib.hid (treeWith_any sy v t (i : Int) w h HS KB)
  obtain ⟨h1, h2, h3⟩ := atE_0 hz
  obtain ⟨hT, hne, hl, _, _⟩ := chkT_ok h1
  obtain ⟨gt, ot, ct, rfl, hgt, hct⟩ := h.some hne
  obtain ⟨n, hn⟩ : ∃ n, t.length = n := ⟨_, rfl⟩
  have hkl : (kidsL t).length = n := by rw [kidsL_len, hn]
  have hin : i < n := by omega
  obtain ⟨e1, e2⟩ := hT.end_bd (p := i) (by omega)
  obtain ⟨q, hq⟩ : ∃ q, endN (kidsL t) i = q := ⟨_, rfl⟩
  have HEnd : Hid ((endsL (kidsL t))[i]? = some q) := Lib.hid (by rw [← hq]; exact endsL_at (by omega))
  have HSL : Hid ((subS t i).length = q - i) := Lib.hid (subS_len hq (by rw [hn, ← hkl, ← hq]; exact e2))
  have CC : Hid (∀ W (c : Nat), Below w.heap.size w W → Calls Tryd.prog 65 #[.slice (some ⟨gt, ot + i * 4, none⟩) (q - i) c] W (RowNd (subS t i) W)) := Lib.hid fun W c hW =>
    clone_nd gt (ot + i * 4) c (q - i) (subS t i) W HSL.out (by omega) (fun j u hj => by
      rw [Nat.add_assoc]; exact (hW.cell (p := ⟨gt, ot + (i * 4 + j), none⟩) hgt).trans (hct _ u (subS_cells hq j u hj))) (Nat.lt_of_lt_of_le hgt hW.size)
  have HV : Hid (∀ a c w', NdsAt w' (.slice a (subS t i).length c) (subS t i) → (subS t i).length ≤ c → Below w.heap.size w w' → freshA w.heap.size a → SubV sy t (i : Int) w (.returned (.tuple #[.slice a (subS t i).length c, .int .i64 0])) w') := Lib.hid fun a c w' r1 r2 r3 r4 =>
    ⟨fun h => absurd hz h, fun _ => ⟨a, c, by rw [Int.toNat_natCast], by rw [Int.toNat_natCast]; exact r1, by rw [Int.toNat_natCast]; exact ⟨fun a n c e => by cases e; exact r2, r4⟩⟩, r3⟩
  have hcap : n ≤ ct := by have := hcv _ _ _ rfl; omega
  have HZ := Lib.hid hz
  have HN := Lib.hid hn
  rw [hq, hkl] at e2
  rw [hq] at e1
  rw [hn] at C ⊢
  have hi0 : (0 : Int) ≤ (i : Int) := Int.natCast_nonneg _
  have hi1 : (i : Int) < (n : Int) := by omega
  have hx1 : (i : Int) ≤ (q : Int) := by omega
  have hx2 : (q : Int) ≤ (ct : Int) := by omega
  have hx3 : ¬ ct = i := by omega
  clear h HS KB hz hcv h1 h2 h3 hT hne hct hkl hq hn
  go_enter Tryd.func31, Tryd.ntmps31
  go_wp2_with fail
  refine C.out.mono ?_
  rintro e' w2 ⟨_, hok, hb2⟩
  obtain ⟨ve, rfl, ge, rfl, hge, hgl, hgc⟩ := hok HZ.out
  have d0 := hgc i q HEnd.out
  rw [HN.out]
  have d1 : ∀ o, (w2.alloc o).cell? ⟨ge, i, none⟩ = some (.int .i64 (q : Int)) := fun o => (World.cell?_alloc_lt _ _ _ hgl).trans d0
  have hB3 : ∀ o, Below w.heap.size w (w2.alloc o) := fun o => hb2.alloc hb2.size o
  clear hok hgc C
  go_wp2_with fail
  -- MARK1
  refine (CC.out _ _ (hB3 _)).mono ?_
  rintro e' w3 ⟨a3, c3, rfl, hnd, hcc, hb3, hfr⟩
  have hb23 := (hB3 _).trans (hb3.mono (by rw [World.size_alloc]; have := hb2.size; omega))
  have HND := Lib.hid hnd
  have HF := Lib.hid (HV.out a3 c3 w3 hnd hcc hb23 (fun p hp => Nat.le_trans (hB3 _).size (hfr p hp)))
  obtain ⟨sl, hsl⟩ : ∃ sl, (subS t i).length = sl := ⟨_, rfl⟩
  have HSl := Lib.hid hsl
  rw [hsl] at HF ⊢
  clear hnd hcc hsl
  go_wp2_with fail
  go_ret2
  exact HF.out

set_option maxRecDepth 50000 in
set_option maxHeartbeats 3200000 in
theorem Kids_ok (sy : List UInt8 → Bool) (v : Value) (t : List Nd) (i : Nat) (w : World) (h : NdsAt w v t) (HS : Hid (SymAll 16 sy w)) (KB : Hid (KidsB t)) (hz : atE sy t (i : Int) = 0) :
    Calls Tryd.prog 20 #[v, .int .i64 (i : Int)] w (KidsV sy t (i : Int) w) := by
  have C := Lib.hid (treeWith_any sy v t (i : Int) w h HS KB)
  obtain ⟨h1, h2, h3⟩ := atE_0 hz
  obtain ⟨hT, hne, hl, _, _⟩ := chkT_ok h1
  obtain ⟨a, c, rfl⟩ := h.slice
  obtain ⟨n, hn⟩ : ∃ n, t.length = n := ⟨_, rfl⟩
  have HT := Lib.hid hT
  have HZ := Lib.hid hz
  have HN := Lib.hid hn
  have hin : i < n := by omega
  have HV : Hid (∀ a c w', IntRow w' (.slice a (cnt (kidsL t) i) c) ((kidsN (kidsL t) i).map fun q : Nat => (q : Int)) → Below w.heap.size w w' → KidsV sy t (i : Int) w (.returned (.tuple #[.slice a (cnt (kidsL t) i) c, .int .i64 0])) w') := Lib.hid fun a c w' r1 r3 =>
    ⟨fun h => absurd hz h, fun _ => ⟨a, c, by rw [Int.toNat_natCast], by rw [Int.toNat_natCast]; exact r1⟩, r3⟩
  rw [hn] at C hl ⊢
  clear h HS KB hz h1 h2 h3 hT hne hn
  go_enter Tryd.func20, Tryd.ntmps20
  go_wp2_with fail
  refine C.out.mono ?_
  rintro e' w2 ⟨_, hok, hb2⟩
  obtain ⟨ve, rfl, ge, rfl, hge, hgl, hgc⟩ := hok HZ.out
  have HGC := Lib.hid hgc
  rw [HN.out]
  clear hok hgc C
  go_wp2_with fail
  -- MARK2
  obtain ⟨W3, hW3⟩ : ∃ W3, W3 = w2.alloc (.cells #[.slice a n c, .slice (some ⟨ge, 0, none⟩) n n] 72) := ⟨_, rfl⟩
  have hB3 : Below w.heap.size w W3 := by rw [hW3]; exact hb2.alloc hb2.size _
  have CK := Lib.hid (coll_kids a c ge n i t W3 HN.out HT.out hin hl (by rw [hW3, World.size_alloc]; omega) (fun j q hj => by rw [hW3]; exact (World.cell?_alloc_lt _ _ _ hgl).trans (HGC.out j q hj)))
  rw [← hW3]
  refine (kids_mk _ _ _ _ _ _ _ _).mono ?_
  rintro e' w5 ⟨rfl, rfl⟩
  clear hW3
  go_wp2_with fail
  refine CK.out.mono ?_
  rintro e' w6 ⟨vk, rfl, hok6, hb6⟩
  have hB6 := hB3.trans (hb6.mono hB3.size)
  rw [kidsN_len] at hok6
  obtain ⟨a6, c6, rfl, h6⟩ := collect_form hok6 (kidsN_len _ _)
  have hrow6 : IntRow w6 (.slice a6 (cnt (kidsL t) i) c6) ((kidsN (kidsL t) i).map fun q : Nat => (q : Int)) := by
    refine ⟨a6, c6, by rw [List.length_map, kidsN_len], h6.imp (fun e => by rw [e]; rfl) ?_⟩
    rintro ⟨g, rfl, _, hg, hc⟩
    refine ⟨g, 0, rfl, hg, fun j n hj => ?_⟩
    rw [List.getElem?_map] at hj
    cases hq : (kidsN (kidsL t) i)[j]? with
    | none => rw [hq] at hj; cases hj
    | some q =>
      rw [hq] at hj
      rw [Nat.zero_add, hc j q hq]
      cases hj; rfl
  have HF := Lib.hid (HV.out a6 c6 w6 hrow6 hB6)
  obtain ⟨sl, hsl⟩ : ∃ sl, cnt (kidsL t) i = sl := ⟨_, rfl⟩
  rw [hsl] at HF ⊢
  clear hok6 h6 hrow6 hsl
  go_wp2_with fail
  go_ret2
  exact HF.out

set_option maxRecDepth 50000 in
set_option maxHeartbeats 3200000 in
theorem Parent_ok (sy : List UInt8 → Bool) (v : Value) (t : List Nd) (i : Nat) (w : World) (h : NdsAt w v t) (HS : Hid (SymAll 16 sy w)) (KB : Hid (KidsB t)) (hz : atE sy t (i : Int) = 0) :
    Calls Tryd.prog 23 #[v, .int .i64 (i : Int)] w fun e w' => e = .returned (parV sy t (i : Int)) ∧ Below w.heap.size w w' := by
  have C := Lib.hid (treeWith_any sy v t (i : Int) w h HS KB)
  obtain ⟨h1, h2, h3⟩ := atE_0 hz
  obtain ⟨hT, hne, hl, _, _⟩ := chkT_ok h1
  obtain ⟨a, c, rfl⟩ := h.slice
  obtain ⟨n, hn⟩ : ∃ n, t.length = n := ⟨_, rfl⟩
  have HT := Lib.hid hT
  have HZ := Lib.hid hz
  have HN := Lib.hid hn
  have hin : i < n := by omega
  by_cases h0 : i = 0
  · have HV : Hid (parV sy t (i : Int) = .tuple #[.int .i64 0, .int .i64 4]) := Lib.hid (by unfold parV; rw [if_neg (by rw [hz]; simp), if_pos (by omega)])
    have hd : ((i : Int) == 0) = true := beq_iff_eq.2 (by omega)
    rw [hn] at C hl ⊢
    clear h HS KB hz h1 h2 h3 hT hne hn h0
    go_enter Tryd.func23, Tryd.ntmps23
    go_wp2_with fail
    refine C.out.mono ?_
    rintro e' w2 ⟨_, hok, hb2⟩
    obtain ⟨ve, rfl, ge, rfl, _, _, _⟩ := hok HZ.out
    clear hok
    go_wp2_with fail
    go_ret2
    exact ⟨(congrArg Ending.returned HV.out).symm, hb2.alloc hb2.size _⟩
  · have HV : Hid (parV sy t (i : Int) = .tuple #[.int .i64 (parN (kidsL t) i : Int), .int .i64 0]) := Lib.hid (by unfold parV; rw [if_neg (by rw [hz]; simp), if_neg (by omega), Int.toNat_natCast])
    have hd : ((i : Int) == 0) = false := beq_eq_false_iff_ne.2 (by omega)
    have hpos : 0 < i := by omega
    rw [hn] at C hl ⊢
    clear h HS KB hz h1 h2 h3 hT hne hn h0
    go_enter Tryd.func23, Tryd.ntmps23
    go_wp2_with fail
    refine C.out.mono ?_
    rintro e' w2 ⟨_, hok, hb2⟩
    obtain ⟨ve, rfl, ge, rfl, hge, hgl, hgc⟩ := hok HZ.out
    have HGC := Lib.hid hgc
    rw [HN.out]
    clear hok hgc C
    go_wp2_with fail
    -- MARK3
    refine (parent_any (.slice a n c) t ge i _ a n c rfl HN.out HT.out hin hpos hl (by rw [World.size_alloc]; omega) (fun j q hj => (World.cell?_alloc_lt _ _ _ hgl).trans (HGC.out j q hj))).mono ?_
    rintro e' w3 ⟨rfl, hb3⟩
    have hB3 := (hb2.alloc hb2.size _).trans (hb3.mono (by rw [World.size_alloc]; have := hb2.size; omega))
    go_wp2_with fail
    go_ret2
    exact ⟨(congrArg Ending.returned HV.out).symm, hB3⟩
theorem Sub_any (sy : List UInt8 → Bool) (v : Value) (t : List Nd) (i : Int) (w : World) (h : NdsAt w v t) (HS : Hid (SymAll 16 sy w)) (KB : Hid (KidsB t)) (hcv : capOk v) :
    Calls Tryd.prog 31 #[v, .int .i64 i] w (SubV sy t i w) := by
  by_cases hz : atE sy t i = 0
  · obtain ⟨_, h2, _⟩ := atE_0 hz
    obtain ⟨n, rfl⟩ : ∃ n : Nat, i = (n : Int) := ⟨i.toNat, by omega⟩
    exact Sub_ok sy v t n w h HS KB hz hcv
  · exact Sub_bad sy v t i w h HS KB hz
theorem Kids_any (sy : List UInt8 → Bool) (v : Value) (t : List Nd) (i : Int) (w : World) (h : NdsAt w v t) (HS : Hid (SymAll 16 sy w)) (KB : Hid (KidsB t)) :
    Calls Tryd.prog 20 #[v, .int .i64 i] w (KidsV sy t i w) := by
  by_cases hz : atE sy t i = 0
  · obtain ⟨_, h2, _⟩ := atE_0 hz
    obtain ⟨n, rfl⟩ : ∃ n : Nat, i = (n : Int) := ⟨i.toNat, by omega⟩
    exact Kids_ok sy v t n w h HS KB hz
  · exact Kids_bad sy v t i w h HS KB hz
theorem Parent_any (sy : List UInt8 → Bool) (v : Value) (t : List Nd) (i : Int) (w : World) (h : NdsAt w v t) (HS : Hid (SymAll 16 sy w)) (KB : Hid (KidsB t)) :
    Calls Tryd.prog 23 #[v, .int .i64 i] w fun e w' => e = .returned (parV sy t i) ∧ Below w.heap.size w w' := by
  by_cases hz : atE sy t i = 0
  · obtain ⟨_, h2, _⟩ := atE_0 hz
    obtain ⟨n, rfl⟩ : ∃ n : Nat, i = (n : Int) := ⟨i.toNat, by omega⟩
    exact Parent_ok sy v t n w h HS KB hz
  · exact Parent_bad sy v t i w h HS KB hz
theorem Path_any (sy : List UInt8 → Bool) (v : Value) (t : List Nd) (i : Int) (w : World) (h : NdsAt w v t) (HS : Hid (SymAll 16 sy w)) (KB : Hid (KidsB t)) :
    Calls Tryd.prog 27 #[v, .int .i64 i] w (PathV sy t i w) := by
  by_cases hz : atE sy t i = 0
  · obtain ⟨_, h2, _⟩ := atE_0 hz
    obtain ⟨n, rfl⟩ : ∃ n : Nat, i = (n : Int) := ⟨i.toNat, by omega⟩
    exact path_ok sy v t n w h HS KB hz
  · exact path_bad sy v t i w h HS KB hz
theorem Put_any (sy : List UInt8 → Bool) (v vs : Value) (t s : List Nd) (i : Int) (w : World) (h : NdsAt w v t) (hs : NdsAt w vs s) (HS : Hid (SymAll 16 sy w)) (KB : Hid (∀ x ∈ [t, s], KidsB x)) (hcv : capOk v) :
    Calls Tryd.prog 36 #[v, .int .i64 i, vs] w (PutV sy t i s w) := by
  by_cases hc : chkAllS sy [t, s] = 0
  · by_cases hz : atE sy t i = 0
    · obtain ⟨_, h2, _⟩ := atE_0 hz
      obtain ⟨n, rfl⟩ : ∃ n : Nat, i = (n : Int) := ⟨i.toNat, by omega⟩
      exact put_in sy v vs t s n w h hs HS KB hc hz hcv
    · exact put_bad sy v vs t s i w h hs HS KB (.inr hz)
  · exact put_bad sy v vs t s i w h hs HS KB (.inl hc)
end Go.Proofs.YtkngkajojcmmlaaDoor
