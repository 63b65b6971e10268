/- The reference's parts; words.readRun and ends. -/
import Derived.Test.YtchnmbfeaaialaaGreatDoorPlB
import Derived.Deep.AppendLies
import Derived.Handy
import Derived.Lib.Bytealg
import Derived.Laws.MakeOwn
namespace Go.Proofs.YtchnmbfeaaialaaGreatDoor
open Go.RowKit Go.PlainAid

theorem infoStrP : (Tryz.prog.info? 9).map (fun i => (i.zero, i.size, i.bytes)) = some (some (.string ⟨#[]⟩), 1, 16) := by kernel_rfl
theorem info_partsP {P : Program} {t : TypeId} {z : Value} {n b : Nat} (h : (P.info? t).map (fun i => (i.zero, i.size, i.bytes)) = some (some z, n, b)) :
    ∃ i, P.info? t = some i ∧ i.zero = some z ∧ i.size = n ∧ i.bytes = b := by
  cases hi : P.info? t with
  | none => rw [hi] at h; cases h
  | some i =>
    rw [hi] at h
    simp only [Option.map_some, Option.some.injEq, Prod.mk.injEq] at h
    exact ⟨i, rfl, h.1, h.2.1, h.2.2⟩
/-- What is left at k, where the piece began at f. -/
def CutAt (c : UInt8) (L : List UInt8) (pre : List (List UInt8)) (f k : Nat) : Prop := f ≤ k ∧ cutF c [] L = pre ++ cutF c ((L.drop f).take (k - f)) (L.drop k)
theorem cutAt_start (c : UInt8) (L : List UInt8) : CutAt c L [] 0 0 := ⟨Nat.le_refl _, by simp⟩
theorem cutAt_hit {c : UInt8} {L : List UInt8} {pre : List (List UInt8)} {f k : Nat} (h : CutAt c L pre f k) (hk : L[k]? = some c) : CutAt c L (pre ++ [(L.drop f).take (k - f)]) (k + 1) (k + 1) := by
  obtain ⟨h1, h2⟩ := h
  have hk' := List.getElem?_eq_some_iff.1 hk
  refine ⟨Nat.le_refl _, ?_⟩
  rw [h2, List.drop_eq_getElem_cons hk'.1, hk'.2, cutF, if_pos rfl, Nat.sub_self, List.take_zero, List.append_assoc]; rfl
theorem cutAt_step {c d : UInt8} {L : List UInt8} {pre : List (List UInt8)} {f k : Nat} (h : CutAt c L pre f k) (hk : L[k]? = some d) (hc : d ≠ c) : CutAt c L pre f (k + 1) := by
  obtain ⟨h1, h2⟩ := h
  have hk' := List.getElem?_eq_some_iff.1 hk
  refine ⟨by omega, ?_⟩
  rw [h2, List.drop_eq_getElem_cons hk'.1, hk'.2, cutF, if_neg hc, show k + 1 - f = (k - f) + 1 by omega, List.take_add_one, List.getElem?_drop, show f + (k - f) = k by omega, hk]; rfl
theorem cutAt_end {c : UInt8} {L : List UInt8} {pre : List (List UInt8)} {f k : Nat} (h : CutAt c L pre f k) (hk : L.length = k) : cutF c [] L = pre ++ [(L.drop f).take (k - f)] := by
  have e : L.drop k = [] := List.drop_of_length_le (by omega)
  rw [h.2, e, cutF]
theorem ext_strP (s : ByteArray) (f k : Nat) : s.extract f k = str ((s.data.toList.drop f).take (k - f)) := by
  rw [← str_data (s.extract f k), Lib.extract_data]

set_option maxRecDepth 50000 in
set_option maxHeartbeats 3200000 in
theorem parts_any (s : ByteArray) (c : UInt8) (cv : Int) (hcv : cv = (c.toNat : Int)) (w : World) (hs : s.size ≤ 1000000) :
    Calls Tryz.prog 42 #[.string s, .int .u8 cv] w fun e w' => ∃ v, e = .returned v ∧ StrsAt w' v (cutF c [] s.data.toList) ∧ Below w.heap.size w w' := by
  obtain ⟨i0, hi, hj0, hj1, hj2⟩ := info_partsP infoStrP
  have hb := get_bt s
  have HL : Hid (s.data.toList.length = s.size) := Lib.hid (len_list s)
  have HCV := Lib.hid hcv
  clear hcv
  go_enter Tryz.func42, Tryz.ntmps42
  go_wp2_with fail
  go_loopw [5, 6, 7] (fun x4 x5 x6 wr => ∃ (k f : Nat) (pre : List (List UInt8)), x6 = .int .i64 k ∧ k ≤ s.size ∧ x5 = .int .i64 f ∧ f ≤ k ∧ pre.length ≤ k ∧ Hid (CutAt c s.data.toList pre f k) ∧ Hid (wr.ownsRow w.heap.size 9 1 x4 pre.length (stc pre)) ∧ Below w.heap.size w wr) (fun _ _ x6 _ => s.size - (intOf x6).toNat)
  case atStart => exact ⟨0, 0, [], rfl, Nat.zero_le _, rfl, Nat.le_refl _, Nat.le_refl _, Lib.hid (cutAt_start _ _), Lib.hid ⟨rfl, .inl ⟨rfl, rfl⟩⟩, Below.refl _ _⟩
  case round =>
    obtain ⟨k, f, pre, rfl, hk, rfl, hfk, hpk, HA, HO, hB⟩ := hrel
    obtain ⟨p, hp⟩ : ∃ p, pre.length = p := ⟨_, rfl⟩
    rw [hp] at hpk HO
    have HP := Lib.hid hp
    clear hp
    by_cases hlt : k < s.size
    · have hl : k < s.data.toList.length := by rw [HL.out]; exact hlt
      have hbk : bt s k = ((s.data.toList[k]'hl).toNat : Int) := by rw [bt_get s k hlt]; rfl
      by_cases h10 : s.data.toList[k]'hl = c
      · have hkc : s.data.toList[k]? = some c := by rw [List.getElem?_eq_getElem hl, h10]
        have HA2 := Lib.hid (cutAt_hit HA.out hkc)
        have HX : Hid (Value.string (s.extract f k) = Value.string (str ((s.data.toList.drop f).take (k - f)))) := Lib.hid (by rw [ext_strP])
        have hbe : (bt s k == cv) = true := by rw [beq_iff_eq, hbk, h10, HCV.out]
        have hq1 : (f : Int) ≤ (k : Int) := by omega
        have hq2 : (k : Int) ≤ (s.size : Int) := by omega
        clear hl hbk h10 hkc
        go_wp2_with (at_builtin; refine wpList_append_lies _ rfl _ _ 46 rfl w.heap.size 9 i0 (.string ⟨#[]⟩) 1 16 Tryz.underlying46 hi hj0 hj1 hj2 rfl (by decide) _ _ _ rfl (HO.out.alloc _) ⟨wr.heap.size, 0, none⟩ 1 1 [.string (s.extract f k)] rfl rfl (new_cells wr [.string (s.extract f k)] _) (by simp [Value.oneCell']) (by omega) (by unfold maxLen; omega) (by omega) (by rw [World.size_alloc]; have := hB.size; omega) (wr.heap.size + 1) (by simp) ?_; intro g1 cap1 w3 hown1 hgrow1 hat1 hlt1; have HB3 : Below w.heap.size w w3 := (hB.alloc hB.size _).grown hgrow1 (by rw [World.size_alloc]; have := hB.size; omega) (fun j hj => (HO.out.lt j hj).1); have HO3 := Lib.hid hown1; clear hown1 hgrow1 hat1)
        go_roundw
        case rel => exact ⟨k + 1, k + 1, pre ++ [(s.data.toList.drop f).take (k - f)], by go_num, by omega, by go_num, Nat.le_refl _, by rw [List.length_append, HP.out, List.length_singleton]; omega, HA2, Lib.hid (by rw [List.length_append, HP.out, stc_app]; have := HO3.out; rw [HX.out] at this; exact this), HB3⟩
        case measure => simp [intOf]; omega
      · have HA2 := Lib.hid (cutAt_step HA.out (List.getElem?_eq_getElem hl) h10)
        have hbe : (bt s k == cv) = false := by
          rw [beq_eq_false_iff_ne, hbk, HCV.out]; intro e
          apply h10; apply UInt8.toNat_inj.1; omega
        clear hl hbk h10
        go_wp2
        go_roundw
        case rel => exact ⟨k + 1, f, pre, by go_num, by omega, rfl, by omega, by rw [HP.out]; omega, HA2, by rw [HP.out]; exact HO, hB⟩
        case measure => simp [intOf]; omega
    · obtain rfl : k = s.size := by omega
      have HLn := Lib.hid (cutAt_end HA.out HL.out)
      have HX : Hid (Value.string (s.extract f s.size) = Value.string (str ((s.data.toList.drop f).take (s.size - f)))) := Lib.hid (by rw [ext_strP])
      have hq1 : (0 : Int) ≤ (f : Int) := by omega
      have hq2 : (f : Int) ≤ (s.size : Int) := by omega
      go_wp2_with (at_builtin; refine wpList_append_lies _ rfl _ _ 46 rfl w.heap.size 9 i0 (.string ⟨#[]⟩) 1 16 Tryz.underlying46 hi hj0 hj1 hj2 rfl (by decide) _ _ _ rfl (HO.out.alloc _) ⟨wr.heap.size, 0, none⟩ 1 1 [.string (s.extract f s.size)] rfl rfl (new_cells wr [.string (s.extract f s.size)] _) (by simp [Value.oneCell']) (by omega) (by unfold maxLen; omega) (by omega) (by rw [World.size_alloc]; have := hB.size; omega) (wr.heap.size + 1) (by simp) ?_; intro g1 cap1 w3 hown1 hgrow1 hat1 hlt1; have HB3 : Below w.heap.size w w3 := (hB.alloc hB.size _).grown hgrow1 (by rw [World.size_alloc]; have := hB.size; omega) (fun j hj => (HO.out.lt j hj).1); have HO3 := Lib.hid hown1; clear hown1 hgrow1 hat1)
      go_returns
      refine ⟨_, rfl, ?_, HB3⟩
      rw [HLn.out]
      refine StrsAt.own (B := w.heap.size) (e := 9) ?_
      rw [List.length_append, HP.out, stc_app]
      have := HO3.out; rw [HX.out] at this; exact this
end Go.Proofs.YtchnmbfeaaialaaGreatDoor
