/- The reference of layer 9: Ids, Has, Add, Drop, Flip. -/
import Derived.Test.YtchnmbfeaaialaaGreatDoorSrc
namespace Go.Proofs.YtchnmbfeaaialaaGreatDoor
open Go.RowKit Go.PlainAid

theorem flip_in {l : List Nat} {k : Nat} (hl : asc l) (h : k ∈ l) : mg true false true l [k] = mg true false false l [k] :=
  asc_ext (asc_mg' hl (asc_one k)) (asc_mg' hl (asc_one k)) fun z => by
    rw [mem_mg' hl (asc_one k), mem_mg' hl (asc_one k), List.mem_singleton]
    constructor
    · rintro (⟨a, b, c⟩ | ⟨a, b, c⟩ | ⟨a, b, c⟩)
      · exact .inl ⟨a, b, rfl⟩
      · cases c
      · subst b; exact absurd h a
    · rintro (⟨a, b, c⟩ | ⟨a, b, c⟩ | ⟨a, b, c⟩)
      · exact .inl ⟨a, b, rfl⟩
      · cases c
      · cases c
theorem flip_out {l : List Nat} {k : Nat} (hl : asc l) (h : k ∉ l) : mg true false true l [k] = mg true true true l [k] :=
  asc_ext (asc_mg' hl (asc_one k)) (asc_mg' hl (asc_one k)) fun z => by
    rw [mem_mg' hl (asc_one k), mem_mg' hl (asc_one k), List.mem_singleton]
    constructor
    · rintro (⟨a, b, c⟩ | ⟨a, b, c⟩ | ⟨a, b, c⟩)
      · exact .inl ⟨a, b, rfl⟩
      · cases c
      · exact .inr (.inr ⟨a, b, rfl⟩)
    · rintro (⟨a, b, c⟩ | ⟨a, b, c⟩ | ⟨a, b, c⟩)
      · exact .inl ⟨a, b, rfl⟩
      · subst b; exact absurd a h
      · exact .inr (.inr ⟨a, b, rfl⟩)
theorem strE_l (S : List UInt8) (e : Int) : strE (S, e) = .tuple #[.string (str S), .int .i64 e] := rfl
set_option maxRecDepth 50000 in
theorem rIds_any (L : List UInt8) (w : World) (hL : L.length ≤ 100000) : Calls Tryz.prog 16 #[.string (str L)] w (IdsV L w) := by
  have C := Lib.hid (rcheck_any L w (by omega))
  by_cases hc : chkE L = 0
  · obtain ⟨l, rfl, h⟩ := set_of hc
    have CI := Lib.hid (fun W => rids_any l W h.lt (by have := h.few; omega))
    have HV : Hid (idsS (setL l) = (l, 0)) := Lib.hid (by unfold idsS; rw [if_neg (by rw [h.chk]; simp), h.ids])
    rw [hc] at C
    obtain ⟨S, hS⟩ : ∃ S, str (setL l) = S := ⟨_, rfl⟩
    rw [hS] at C CI ⊢
    clear hS h hc hL
    go_enter Tryz.func16, Tryz.ntmps16
    go_wp2_with fail
    refine C.out.mono ?_
    rintro e w1 ⟨rfl, hb1⟩
    go_wp2_with fail
    refine (CI.out _).mono ?_
    rintro e w2 ⟨v, rfl, hown, hb2⟩
    go_wp2_with fail
    go_ret2
    exact ⟨v, by rw [HV.out]; rfl, by rw [HV.out]; exact own_mono hown hb1.size, below_step hb1 hb2⟩
  · have HV : Hid (idsS L = ([], chkE L)) := Lib.hid (by unfold idsS; rw [if_pos hc])
    obtain ⟨e0, he0⟩ : ∃ e, chkE L = e := ⟨_, rfl⟩
    rw [he0] at hc C HV
    have hne : (e0 != 0) = true := bne_iff_ne.2 hc
    obtain ⟨S, hS⟩ : ∃ S, str L = S := ⟨_, rfl⟩
    rw [hS] at C ⊢
    clear hS hc he0 hL
    go_enter Tryz.func16, Tryz.ntmps16
    go_wp2_with fail
    refine C.out.mono ?_
    rintro e w1 ⟨rfl, hb1⟩
    go_wp2_with fail
    go_ret2
    exact ⟨.slice none 0 0, by rw [HV.out]; rfl, by rw [HV.out]; exact ⟨rfl, .inl ⟨rfl, rfl⟩⟩, hb1⟩
end Go.Proofs.YtchnmbfeaaialaaGreatDoor
