/- The reference of layer 9: Ids, Has, Add, Drop, Flip. -/
import Derived.Test.YtbkkmcfpjpbhaaaSrc
namespace Go.Proofs.Ytbkkmcfpjpbhaaa
open Go.RowKit Go.PlainAid

theorem flip_in {l : List Nat} {k : Nat} (hl : asc l) (h : k ∈ l) : mg true false true l [k] = mg true false false l [k] :=
  asc_ext (asc_mg' hl (asc_one k)) (asc_mg' hl (asc_one k)) fun z => by
    rw [mem_mg' hl (asc_one k), mem_mg' hl (asc_one k), List.mem_singleton]
    constructor
    · rintro (⟨a, b, c⟩ | ⟨a, b, c⟩ | ⟨a, b, c⟩)
      · exact .inl ⟨a, b, rfl⟩
      · cases c
      · subst b; exact absurd h a
    · rintro (⟨a, b, c⟩ | ⟨a, b, c⟩ | ⟨a, b, c⟩)
      · exact .inl ⟨a, b, rfl⟩
      · cases c
      · cases c
theorem flip_out {l : List Nat} {k : Nat} (hl : asc l) (h : k ∉ l) : mg true false true l [k] = mg true true true l [k] :=
  asc_ext (asc_mg' hl (asc_one k)) (asc_mg' hl (asc_one k)) fun z => by
    rw [mem_mg' hl (asc_one k), mem_mg' hl (asc_one k), List.mem_singleton]
    constructor
    · rintro (⟨a, b, c⟩ | ⟨a, b, c⟩ | ⟨a, b, c⟩)
      · exact .inl ⟨a, b, rfl⟩
      · cases c
      · exact .inr (.inr ⟨a, b, rfl⟩)
    · rintro (⟨a, b, c⟩ | ⟨a, b, c⟩ | ⟨a, b, c⟩)
      · exact .inl ⟨a, b, rfl⟩
      · subst b; exact absurd a h
      · exact .inr (.inr ⟨a, b, rfl⟩)
theorem strE_l (S : List UInt8) (e : Int) : strE (S, e) = .tuple #[.string (str S), .int .i64 e] := rfl
end Go.Proofs.Ytbkkmcfpjpbhaaa
