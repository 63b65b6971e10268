/- The law RunesBack, walked. -/
import Derived.Deep.DeepCutAuto
import Derived.Deep.CutBlock

import Derived.Test.YtbajikkjkiacnaaDoorRawake
namespace Go.Proofs.YtbajikkjkiacnaaDoor
open Go.RowKit Go.PlainAid

/-- A beginning of the bytes of a rune is none. -/
theorem dec_take {r : Int} (hr : isR r = true) {i : Nat} (h0 : 0 < i) (h1 : i < wO r) : dec ((enc r).take i) = (0, 0, 320) := by
  have hb := isR_iff.1 hr
  rcases isR_forms hr with ⟨a, b⟩ | ⟨a, b⟩ | ⟨a, b⟩ | ⟨a, b⟩
  · rw [wO_1 a b] at h1; omega
  · rw [wO_2 a b] at h1
    obtain rfl : i = 1 := by omega
    have e1 := ub_u8 (n := 192 + r / 64) (by omega)
    rw [enc_2 a b]
    simp only [List.take_succ_cons, List.take_zero]
    rw [dec_c2 (by omega) (by omega)]; rfl
  · rw [wO_3 hr a b] at h1
    have e1 := ub_u8 (n := 224 + r / 4096) (by omega)
    have e2 := ub_u8 (n := 128 + r / 64 % 64) (by omega)
    have hl := lo_hi_bd (ub (u8 (224 + r / 4096)))
    have hi : i = 1 ∨ i = 2 := by omega
    rw [enc_3 hr a b]
    rcases hi with rfl | rfl
    · simp only [List.take_succ_cons, List.take_zero]
      rw [dec_c3 (by omega) (by omega)]; rfl
    · simp only [List.take_succ_cons, List.take_zero]
      rw [dec_c3 (by omega) (by omega)]
      simp only [three]; rw [if_pos (by omega)]
  · rw [wO_4 a b] at h1
    have e1 := ub_u8 (n := 240 + r / 262144) (by omega)
    have e2 := ub_u8 (n := 128 + r / 4096 % 64) (by omega)
    have e3 := ub_u8 (n := 128 + r / 64 % 64) (by omega)
    have hl := lo_hi_bd (ub (u8 (240 + r / 262144)))
    have hi : i = 1 ∨ i = 2 ∨ i = 3 := by omega
    rw [enc_4 a b]
    rcases hi with rfl | rfl | rfl
    · simp only [List.take_succ_cons, List.take_zero]
      rw [dec_c4 (by omega) (by omega)]; rfl
    · simp only [List.take_succ_cons, List.take_zero]
      rw [dec_c4 (by omega) (by omega)]
      simp only [four]; rw [if_pos (by omega)]
    · simp only [List.take_succ_cons, List.take_zero]
      rw [dec_c4 (by omega) (by omega)]
      simp only [four]; rw [if_pos (by omega), if_pos (by omega)]

/-- Where the rows of a rune's bytes lie. -/
theorem own_at {w : World} {B e n : Nat} {a : Option Addr} {c : Nat} {xs : List Value} (h : w.ownsRow B e 1 (.slice a n c) n xs) (hn : 1 ≤ n) :
    ∃ g, a = some ⟨g, 0, none⟩ ∧ n ≤ c ∧ g < w.heap.size ∧ ∀ j u, xs[j]? = some u → w.cell? ⟨g, 0 + j, none⟩ = some u := by
  obtain ⟨g, cap, he, _, hg, hc⟩ := own_some h hn
  obtain ⟨rfl, _, rfl⟩ := Value.slice.inj he
  refine ⟨g, rfl, ?_, hg, fun j u hj => ?_⟩
  · rcases h.2 with ⟨h1, _⟩ | ⟨g', cap', cur, h1, _, _, h2, _⟩
    · cases h1
    · obtain ⟨_, _, rfl⟩ := Value.slice.inj h1; exact h2
  · have := hc j u hj
    rwa [Go.WideShapes.add_plain] at this

end Go.Proofs.YtbajikkjkiacnaaDoor
