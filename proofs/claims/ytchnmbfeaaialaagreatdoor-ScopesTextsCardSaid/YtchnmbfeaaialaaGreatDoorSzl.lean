/- The law ScopesTexts. -/
import Derived.Test.YtchnmbfeaaialaaGreatDoorSza
namespace Go.Proofs.YtchnmbfeaaialaaGreatDoor
open Go.RowKit Go.PlainAid

theorem str_ofZ (s : ByteArray) : ∃ A : List UInt8, str A = s ∧ A.length = s.size := ⟨s.data.toList, str_data s, len_list s⟩
set_option maxRecDepth 100000 in
set_option maxHeartbeats 12800000 in
theorem lawTx_any (SA SB : ByteArray) (w : World) (Z : ZTab w) :
    Calls Tryz.prog 3 #[.string SA, .string SB] w fun e w' => e = .returned (.bool true) ∧ Below w.heap.size w w' := by
  have CAw := Lib.hid (fun W (hW : Below w.heap.size w W) => awake_any W (Z.tab.below hW))
  obtain ⟨A, hA, lA⟩ := str_ofZ SA
  obtain ⟨B, hB, lB⟩ := str_ofZ SB
  by_cases h0 : 1200 < SA.size
  · have d0 : decide ((1200 : Int) < (SA.size : Int)) = true := decide_eq_true (by omega)
    clear Z
    go_enter Tryz.func3, Tryz.ntmps3
    go_wp2_with fail
    refine (CAw.out _ (Below.refl _ _)).mono ?_
    rintro e w9 ⟨rfl, hb9⟩
    go_wp2_with fail
    go_ret
    exact ⟨rfl, hb9⟩
  have d0 : decide ((1200 : Int) < (SA.size : Int)) = false := decide_eq_false (by omega)
  by_cases h1 : 1000 < SB.size
  · have d1 : decide ((1000 : Int) < (SB.size : Int)) = true := decide_eq_true (by omega)
    clear Z
    go_enter Tryz.func3, Tryz.ntmps3
    go_wp2_with fail
    refine (CAw.out _ (Below.refl _ _)).mono ?_
    rintro e w9 ⟨rfl, hb9⟩
    go_wp2_with fail
    go_ret
    exact ⟨rfl, hb9⟩
  have d1 : decide ((1000 : Int) < (SB.size : Int)) = false := decide_eq_false (by omega)
  have P1 := Lib.hid (fun W (hW : Below w.heap.size w W) => print_any A W (by omega) (Z.below hW).tab)
  have P2 := Lib.hid (fun W => rprint_any A W (by omega))
  have Q1 := Lib.hid (fun W (hW : Below w.heap.size w W) => pparse_any B W (by omega) (Z.below hW))
  have Q2 := Lib.hid (fun W => rpparse_any B W (by omega))
  have Q3 := Lib.hid (fun W (hW : Below w.heap.size w W) => pparse_any (prS A).1 W (prS_len A) (Z.below hW))
  have P3 := Lib.hid (fun W (hW : Below w.heap.size w W) => print_any (psS B).1 W (ps_few B) (Z.below hW).tab)
  have HQ : Hid ((prS A).2 = 0 → psS (prS A).1 = (A, 0)) := Lib.hid ps_pr
  have HP : Hid ((psS B).2 = 0 → prS (psS B).1 = (B, 0)) := Lib.hid pr_ps
  clear Z
  obtain ⟨⟨X1, e1⟩, h1⟩ : ∃ r, prS A = r := ⟨_, rfl⟩
  obtain ⟨⟨X2, e2⟩, h2⟩ : ∃ r, psS B = r := ⟨_, rfl⟩
  rw [h1] at P1 P2 Q3 HQ
  rw [h2] at Q1 Q2 P3 HP
  simp only at P1 P2 Q1 Q2 Q3 P3 HQ HP
  obtain ⟨⟨X3, e3⟩, h3⟩ : ∃ r, psS X1 = r := ⟨_, rfl⟩
  obtain ⟨⟨X4, e4⟩, h4⟩ : ∃ r, prS X2 = r := ⟨_, rfl⟩
  rw [h3] at Q3 HQ
  rw [h4] at P3 HP
  rw [hA] at P1 P2
  rw [hB] at Q1 Q2
  unfold strE at P1 P2 Q1 Q2 Q3 P3
  obtain ⟨S1, g1⟩ : ∃ r, str X1 = r := ⟨_, rfl⟩
  obtain ⟨S2, g2⟩ : ∃ r, str X2 = r := ⟨_, rfl⟩
  obtain ⟨S3, g3⟩ : ∃ r, str X3 = r := ⟨_, rfl⟩
  obtain ⟨S4, g4⟩ : ∃ r, str X4 = r := ⟨_, rfl⟩
  simp only [g1, g2, g3, g4] at P1 P2 Q1 Q2 Q3 P3
  have c1 : (e1 = 0 ∧ S3 = SA ∧ e3 = 0) ∨ (e1 == 0) = false := by
    by_cases h : e1 = 0
    · obtain ⟨ha, hb⟩ := Prod.mk.inj (HQ.out h)
      exact .inl ⟨h, by rw [← g3, ha, hA], hb⟩
    · exact .inr (beq_eq_false_iff_ne.2 h)
  have c2 : (e2 = 0 ∧ S4 = SB ∧ e4 = 0) ∨ (e2 == 0) = false := by
    by_cases h : e2 = 0
    · obtain ⟨ha, hb⟩ := Prod.mk.inj (HP.out h)
      exact .inl ⟨h, by rw [← g4, ha, hB], hb⟩
    · exact .inr (beq_eq_false_iff_ne.2 h)
  clear h1 h2 h3 h4 HQ HP hA hB lA lB g1 g2 g3 g4 h0
  rcases c1 with ⟨rfl, rfl, rfl⟩ | n1
  · rcases c2 with ⟨rfl, rfl, rfl⟩ | n2
    · skip
      go_enter Tryz.func3, Tryz.ntmps3
      go_wp2_with fail
      refine (P1.out _ (Below.refl _ _)).mono ?_
      rintro e w1 ⟨rfl, hb1⟩
      have hB1 := hb1
      go_wp2_with fail
      refine (P2.out _).mono ?_
      rintro e w2 ⟨rfl, hb2⟩
      have hB2 := below_step hB1 hb2
      go_wp2_with fail
      refine (Q1.out _ hB2).mono ?_
      rintro e w3 ⟨rfl, hb3⟩
      have hB3 := below_step hB2 hb3
      go_wp2_with fail
      refine (Q2.out _).mono ?_
      rintro e w4 ⟨rfl, hb4⟩
      have hB4 := below_step hB3 hb4
      go_wp2_with fail
      refine (Q3.out _ hB4).mono ?_
      rintro e w5 ⟨rfl, hb5⟩
      have hB5 := below_step hB4 hb5
      go_wp2_with fail
      refine (P3.out _ hB5).mono ?_
      rintro e w6 ⟨rfl, hb6⟩
      have hB6 := below_step hB5 hb6
      go_wp2_with fail
      refine (CAw.out _ hB6).mono ?_
      rintro e wz ⟨rfl, hbz⟩
      go_wp2_with fail
      go_ret
      exact ⟨rfl, below_step hB6 hbz⟩
    · skip
      go_enter Tryz.func3, Tryz.ntmps3
      go_wp2_with fail
      refine (P1.out _ (Below.refl _ _)).mono ?_
      rintro e w1 ⟨rfl, hb1⟩
      have hB1 := hb1
      go_wp2_with fail
      refine (P2.out _).mono ?_
      rintro e w2 ⟨rfl, hb2⟩
      have hB2 := below_step hB1 hb2
      go_wp2_with fail
      refine (Q1.out _ hB2).mono ?_
      rintro e w3 ⟨rfl, hb3⟩
      have hB3 := below_step hB2 hb3
      go_wp2_with fail
      refine (Q2.out _).mono ?_
      rintro e w4 ⟨rfl, hb4⟩
      have hB4 := below_step hB3 hb4
      go_wp2_with fail
      refine (Q3.out _ hB4).mono ?_
      rintro e w5 ⟨rfl, hb5⟩
      have hB5 := below_step hB4 hb5
      go_wp2_with fail
      refine (CAw.out _ hB5).mono ?_
      rintro e wz ⟨rfl, hbz⟩
      go_wp2_with fail
      go_ret
      exact ⟨rfl, below_step hB5 hbz⟩
  · rcases c2 with ⟨rfl, rfl, rfl⟩ | n2
    · skip
      go_enter Tryz.func3, Tryz.ntmps3
      go_wp2_with fail
      refine (P1.out _ (Below.refl _ _)).mono ?_
      rintro e w1 ⟨rfl, hb1⟩
      have hB1 := hb1
      go_wp2_with fail
      refine (P2.out _).mono ?_
      rintro e w2 ⟨rfl, hb2⟩
      have hB2 := below_step hB1 hb2
      go_wp2_with fail
      refine (Q1.out _ hB2).mono ?_
      rintro e w3 ⟨rfl, hb3⟩
      have hB3 := below_step hB2 hb3
      go_wp2_with fail
      refine (Q2.out _).mono ?_
      rintro e w4 ⟨rfl, hb4⟩
      have hB4 := below_step hB3 hb4
      go_wp2_with fail
      refine (P3.out _ hB4).mono ?_
      rintro e w5 ⟨rfl, hb5⟩
      have hB5 := below_step hB4 hb5
      go_wp2_with fail
      refine (CAw.out _ hB5).mono ?_
      rintro e wz ⟨rfl, hbz⟩
      go_wp2_with fail
      go_ret
      exact ⟨rfl, below_step hB5 hbz⟩
    · skip
      go_enter Tryz.func3, Tryz.ntmps3
      go_wp2_with fail
      refine (P1.out _ (Below.refl _ _)).mono ?_
      rintro e w1 ⟨rfl, hb1⟩
      have hB1 := hb1
      go_wp2_with fail
      refine (P2.out _).mono ?_
      rintro e w2 ⟨rfl, hb2⟩
      have hB2 := below_step hB1 hb2
      go_wp2_with fail
      refine (Q1.out _ hB2).mono ?_
      rintro e w3 ⟨rfl, hb3⟩
      have hB3 := below_step hB2 hb3
      go_wp2_with fail
      refine (Q2.out _).mono ?_
      rintro e w4 ⟨rfl, hb4⟩
      have hB4 := below_step hB3 hb4
      go_wp2_with fail
      refine (CAw.out _ hB4).mono ?_
      rintro e wz ⟨rfl, hbz⟩
      go_wp2_with fail
      go_ret
      exact ⟨rfl, below_step hB4 hbz⟩
-- MARK9
end Go.Proofs.YtchnmbfeaaialaaGreatDoor
