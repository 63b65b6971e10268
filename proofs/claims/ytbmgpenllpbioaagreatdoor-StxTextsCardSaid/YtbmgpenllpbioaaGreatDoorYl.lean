/- The text of a leaf. -/
import Derived.Test.YtbmgpenllpbioaaGreatDoorYq
import Derived.Laws.Concat
namespace Go.Proofs.YtbmgpenllpbioaaGreatDoor
open Go.RowKit Go.PlainAid

def leafS (x : Sx) : List UInt8 × Int :=
  if x.k = 4 then ([40, 41], 0) else if x.k = 1 then (Lib.itoa x.n, 0) else if x.k = 3 then (((x.s ++ [123]) ++ (prS x.p).1) ++ [125], (prS x.p).2) else if x.n = 1 then ([35, 116], 0) else ([35, 102], 0)
theorem runsFrom_all : ∀ (f : Nat) (l : List Int) (p : Nat), (∀ n ∈ l, i64r n) → (runsFrom f l p).length ≤ f ∧ ∀ t ∈ runsFrom f l p, t.length ≤ 43 := by
  intro f
  induction f with
  | zero => intro l p _; exact ⟨Nat.le_refl _, fun t h => by cases h⟩
  | succ f ih =>
    intro l p h
    rw [runsFrom]
    split
    · rename_i a b ha hb
      obtain ⟨h1, h2⟩ := ih l (runE l p) h
      refine ⟨by rw [List.length_cons]; omega, fun t ht => ?_⟩
      rcases List.mem_cons.1 ht with e | e
      · rw [e]; exact runT_len (h a (List.mem_of_getElem? ha)) (h b (List.mem_of_getElem? hb))
      · exact h2 t e
    · exact ⟨Nat.zero_le _, fun t h => by cases h⟩
theorem listS_len {l : List Int} (h : ∀ n ∈ l, i64r n) : (listS l).1.length ≤ 22000 := by
  unfold listS
  split
  · exact Nat.zero_le _
  · split
    · exact Nat.zero_le _
    · split
      · exact Nat.zero_le _
      · split
        · show 1 ≤ _; omega
        · obtain ⟨h1, h2⟩ := runsFrom_all l.length l 0 h
          have := join_le h2
          show (Lib.join (runsFrom l.length l 0) [44]).length ≤ _
          omega
theorem prS_len (p : List UInt8) : (prS p).1.length ≤ 22000 := by
  unfold prS
  split
  · exact Nat.zero_le _
  · refine listS_len fun n hn => ?_
    obtain ⟨m, hm, rfl⟩ := List.mem_map.1 hn
    have := ids_lt p m hm
    unfold i64r; omega
theorem leafS_len {x : Sx} (hs : x.s.length ≤ 100000) (hn : i64r x.n) : (leafS x).1.length ≤ 200000 := by
  unfold leafS
  have h1 := Lib.itoa_length_le x.n hn.1 hn.2
  have h2 := prS_len x.p
  split
  · show 2 ≤ _; omega
  · split
    · show (Lib.itoa x.n).length ≤ _; omega
    · split
      · simp only [List.length_append, List.length_cons, List.length_nil]; omega
      · split
        · show 2 ≤ _; omega
        · show 2 ≤ _; omega
set_option maxRecDepth 50000 in
set_option maxHeartbeats 3200000 in
theorem leaf_any (x : Sx) (w : World) (T : STab w) (hp : x.p.length ≤ 100000) (hs : x.s.length ≤ 100000) (hn : i64r x.n) :
    Calls Tryz.prog 85 #[sxA x] w fun e w' => e = .returned (strE (leafS x)) ∧ Below w.heap.size w w' := by
  have hpr := prS_len x.p
  obtain ⟨k, c, n, s, p, f, t, o⟩ := x
  have hB := below_b1 w (.cells #[.int .i64 k, .int .i64 c, .int .i64 n, .string (str s), .string (str p), .int .i64 f, .int .i64 t, .int .i64 o] 28)
  have hb0 := World.alloc_heap_new w (.cells #[.int .i64 k, .int .i64 c, .int .i64 n, .string (str s), .string (str p), .int .i64 f, .int .i64 t, .int .i64 o] 28)
  obtain ⟨d0, d1, d2, d3, d4, d5, d6, d7⟩ := box8_facts hb0
  show Calls _ _ #[.agg #[.int .i64 k, .int .i64 c, .int .i64 n, .string (str s), .string (str p), .int .i64 f, .int .i64 t, .int .i64 o]] _ _
  by_cases k4 : k = 4
  · subst k4
    have HV : Hid (leafS ⟨4, c, n, s, p, f, t, o⟩ = ([40, 41], 0)) := Lib.hid rfl
    have HB := Lib.hid hB
    clear hb0 T hp hs hn hpr hB
    go_enter Tryz.func85, Tryz.ntmps85
    go_wp2_with fail
    go_ret2
    exact ⟨by rw [HV.out]; rfl, HB.out⟩
  have g4 : (k == 4) = false := beq_eq_false_iff_ne.2 k4
  by_cases k1 : k = 1
  · subst k1
    have HV : Hid (leafS ⟨1, c, n, s, p, f, t, o⟩ = (Lib.itoa n, 0)) := Lib.hid rfl
    have HB := Lib.hid hB
    have CF := Lib.hid (Tryz.strconv_FormatInt_10 n hn.1 hn.2 (w.alloc (.cells #[.int .i64 1, .int .i64 c, .int .i64 n, .string (str s), .string (str p), .int .i64 f, .int .i64 t, .int .i64 o] 28)) (T.below hB).pow)
    clear hb0 T hp hs hn hpr hB k4
    go_enter Tryz.func85, Tryz.ntmps85
    go_wp2_with fail
    refine CF.out.mono ?_
    rintro e w1 ⟨rfl, q, os, rfl⟩
    go_wp2_with fail
    -- MARK1
    go_ret2
    exact ⟨by rw [HV.out]; rfl, (HB.out.trans ((Lib.below_grow _ _ (Nat.le_refl _) q os).mono HB.out.size))⟩
  have g1 : (k == 1) = false := beq_eq_false_iff_ne.2 k1
  by_cases k3 : k = 3
  · subst k3
    have HV : Hid (leafS ⟨3, c, n, s, p, f, t, o⟩ = (((s ++ [123]) ++ (prS p).1) ++ [125], (prS p).2)) := Lib.hid rfl
    obtain ⟨W1, hW1⟩ : ∃ W1, W1 = w.alloc (.cells #[.int .i64 3, .int .i64 c, .int .i64 n, .string (str s), .string (str p), .int .i64 f, .int .i64 t, .int .i64 o] 28) := ⟨_, rfl⟩
    have CP := Lib.hid (print_any p W1 (by simp only at hp; omega) (T.below (by rw [hW1]; exact hB)))
    unfold strE at CP
    obtain ⟨⟨q, e0⟩, hq⟩ : ∃ r, prS p = r := ⟨_, rfl⟩
    rw [hq] at CP HV
    simp only at CP HV hpr hs
    rw [hq] at hpr
    have HCat : Hid (str (((s ++ [123]) ++ q) ++ [125]) = ((str s ++ ⟨#[123]⟩) ++ str q) ++ ⟨#[125]⟩) := Lib.hid (by rw [← str_cat, ← str_cat, ← str_cat]; rfl)
    obtain ⟨S, hS⟩ : ∃ S, str s = S := ⟨_, rfl⟩
    obtain ⟨P, hP⟩ : ∃ S, str p = S := ⟨_, rfl⟩
    obtain ⟨Q, hQ⟩ : ∃ S, str q = S := ⟨_, rfl⟩
    have zS : S.size ≤ 100000 := by rw [← hS, str_size]; exact hs
    have zQ : Q.size ≤ 22000 := by rw [← hQ, str_size]; exact hpr
    have ho1 : ∀ W, (Op.stringOp .add S ⟨#[123]⟩).run Tryz.prog W = .ok (.string (S ++ ⟨#[123]⟩)) W := fun W => run_string_add_sum W _ _ (by show S.size + 1 ≤ _; omega)
    have ho2 : ∀ W, (Op.stringOp .add (S ++ ⟨#[123]⟩) Q).run Tryz.prog W = .ok (.string ((S ++ ⟨#[123]⟩) ++ Q)) W := fun W => run_string_add_sum W _ _ (by rw [ByteArray.size_append]; show S.size + 1 + Q.size ≤ _; omega)
    have ho3 : ∀ W, (Op.stringOp .add ((S ++ ⟨#[123]⟩) ++ Q) ⟨#[125]⟩).run Tryz.prog W = .ok (.string (((S ++ ⟨#[123]⟩) ++ Q) ++ ⟨#[125]⟩)) W := fun W => run_string_add_sum W _ _ (by rw [ByteArray.size_append, ByteArray.size_append]; show S.size + 1 + Q.size + 1 ≤ _; omega)
    rw [hS] at hW1 HCat d3 hb0 ⊢
    rw [hP] at hW1 CP d4 hb0 ⊢
    rw [hQ] at CP HCat
    have HB0 : Hid (Below w.heap.size w W1) := Lib.hid (by rw [hW1]; exact below_b1 _ _)
    have HD : Hid (∀ W, Below W1.heap.size W1 W → W.cell? ⟨w.heap.size, 3, none⟩ = some (.string S)) := Lib.hid fun W hW => by
      rw [hW1] at hW
      have hx := World.alloc_heap_new w (.cells #[.int .i64 3, .int .i64 c, .int .i64 n, .string S, .string P, .int .i64 f, .int .i64 t, .int .i64 o] 28)
      exact (box8_facts ((hW.block w.heap.size (by rw [World.size_alloc]; omega)).trans hx)).2.2.2.1
    subst hW1
    rw [hS, hP] at d0 d1 d2 d5 d6 d7
    clear hb0 T hp hs hn hpr hB hS hP hQ hq
    go_enter Tryz.func85, Tryz.ntmps85
    go_wp2_with fail
    refine CP.out.mono ?_
    rintro e w1 ⟨rfl, hb1⟩
    have c3 := HD.out w1 hb1
    go_wp2_with fail
    -- MARK2
    go_ret2
    exact ⟨by rw [HV.out]; unfold strE; simp only; rw [HCat.out]; rfl, below_step HB0.out hb1⟩
  have g3 : (k == 3) = false := beq_eq_false_iff_ne.2 k3
  by_cases n1 : n = 1
  · subst n1
    have HV : Hid (leafS ⟨k, c, 1, s, p, f, t, o⟩ = ([35, 116], 0)) := Lib.hid (by unfold leafS; simp only [if_neg k4, if_neg k1, if_neg k3]; rfl)
    have HB := Lib.hid hB
    clear hb0 T hp hs hn hpr hB k4 k1 k3
    go_enter Tryz.func85, Tryz.ntmps85
    go_wp2_with fail
    go_ret2
    exact ⟨by rw [HV.out]; rfl, HB.out⟩
  · have HV : Hid (leafS ⟨k, c, n, s, p, f, t, o⟩ = ([35, 102], 0)) := Lib.hid (by unfold leafS; simp only [if_neg k4, if_neg k1, if_neg k3, if_neg n1])
    have HB := Lib.hid hB
    have gn : (n == 1) = false := beq_eq_false_iff_ne.2 n1
    clear hb0 T hp hs hn hpr hB k4 k1 k3 n1
    go_enter Tryz.func85, Tryz.ntmps85
    go_wp2_with fail
    go_ret2
    exact ⟨by rw [HV.out]; rfl, HB.out⟩
-- MARK9
end Go.Proofs.YtbmgpenllpbioaaGreatDoor
