/- Contracts of words.Quote and the reference's hex, escaped, Quote. -/
import Derived.Test.YtnajkkbcfebegaaGreatDoorQuote
import Derived.Laws.MakeOwn
namespace Go.Proofs.YtnajkkbcfebegaaGreatDoor
open Go.RowKit Go.PlainAid

theorem appendWritten_any (B : Nat) (v : Value) (l : List UInt8) (c : UInt8) (w : World) (hown : w.ownsRow B 5 1 v l.length (l.map bc)) (hB : B ≤ w.heap.size) (hl : l.length ≤ 1000000000) (htab : EscTab w) :
    Calls Tryz.prog 41 #[v, .int .u8 c.toNat] w (Grew B (l ++ esc c) w) := by
  cases hp : plainB c.toNat
  · exact aw_other B v l c w hown hB hl htab hp
  · have := aw_plain B v l c w hown hB hl hp
    have e : esc c = [c] := by unfold esc; rw [hp]; rfl
    rw [e]; exact this

/-- The bytes of a string, escaped. -/
def escs (l : List UInt8) : List UInt8 := l.flatMap esc
def quoteL (l : List UInt8) : List UInt8 := 34 :: (escs l ++ [34])
theorem esc_len (c : UInt8) : (esc c).length ≤ 4 := by unfold esc; (split; · simp); (split; · simp); (split; · simp); (split; · simp); (split; · simp); (split; · simp); simp
theorem escs_len (l : List UInt8) : (escs l).length ≤ 4 * l.length := by
  induction l with
  | nil => simp [escs]
  | cons a l ih => have := esc_len a; simp only [escs, List.flatMap_cons, List.length_append, List.length_cons] at *; omega
theorem escs_take (s : ByteArray) (k : Nat) (h : k < s.size) : escs (s.data.toList.take (k + 1)) = escs (s.data.toList.take k) ++ esc s[k] := by
  rw [List.take_succ_eq_append_getElem (by simpa using h)]; simp [escs]; rfl
theorem escs_all (s : ByteArray) (k : Nat) (h : s.size ≤ k) : escs (s.data.toList.take k) = escs s.data.toList := by
  rw [List.take_of_length_le (by simpa using h)]

set_option maxHeartbeats 1600000 in
theorem quote_any (s : ByteArray) (w : World) (hs : s.size ≤ 100000000) (htab : EscTab w) (hw : 0 < w.heap.size) :
    Calls Tryz.prog 17 #[.string s] w fun e w' => e = .returned (.string (str (quoteL s.data.toList))) ∧ Below w.heap.size w w' := by
  obtain ⟨i0, hi, hz0, hz1, hz2⟩ := info_parts info5
  obtain ⟨B, hB⟩ : ∃ B, B = w.heap.size := ⟨_, rfl⟩
  rw [← hB]
  obtain ⟨w1, hr, hown, hgrow⟩ := run_make_own (P := Tryz.prog) w B 65 5 i0 (.int .u8 0) 1 Tryz.underlying65 hi hz0 hz1 .i64 .i64 (s.size + 2) (by rw [hz2]; omega) (by unfold maxLen; omega) (by omega)
  have e : ((s.size + 2 : Nat) : Int) = (s.size : Int) + 2 := by omega
  rw [e] at hr
  have hb1 : Below B w w1 := (Below.refl B w).grown hgrow (by omega) (fun k hk => by cases hk)
  have hs1 : Hid (B ≤ w1.heap.size) := Lib.hid (by have := hgrow.size; omega)
  have HT := Lib.hid htab
  have HW := Lib.hid hB
  clear htab hB e hgrow
  go_enter Tryz.func17, Tryz.ntmps17
  go_wp2_with (at_builtin; refine wpList_append_own _ rfl _ _ 65 rfl B 5 i0 (.int .u8 0) 1 1 Tryz.underlying65 hi hz0 hz1 hz2 rfl (by decide) _ _ _ rfl (hown.alloc _) ⟨w1.heap.size, 0, none⟩ 1 1 [.int .u8 34] rfl rfl (new_cells w1 [.int .u8 34] _) (one_ints rfl) (by unfold maxLen; omega) (by omega) (by have := hs1.out; simp; omega) ?_; intro v' w2 hown' hgrow2 _)
  have hl0 : w2.ownsRow B 5 1 v' (34 :: escs (s.data.toList.take 0)).length ((34 :: escs (s.data.toList.take 0)).map bc) := hown'
  have hb2 : Below B w w2 := (hb1.alloc hs1.out _).grown hgrow2 (by have := hs1.out; simp; omega) (fun k hk => (hown.lt k hk).1)
  have hs2 : Hid (B ≤ w2.heap.size) := Lib.hid (by have := hgrow2.size; have := hs1.out; simp at *; omega)
  clear hr hown hown' hgrow2 hb1 hs1
  go_loopw [3, 14] (fun v i wr => ∃ k : Nat, k ≤ s.size ∧ i = .int .i64 k ∧ wr.ownsRow B 5 1 v (34 :: escs (s.data.toList.take k)).length ((34 :: escs (s.data.toList.take k)).map bc) ∧ Below B w wr ∧ Hid (B ≤ wr.heap.size)) (fun _ i _ => s.size - (intOf i).toNat)
  case atStart => exact ⟨0, by omega, rfl, hl0, hb2, hs2⟩
  case round =>
    obtain ⟨k, hk, rfl, hown', hbel, hsz⟩ := hrel
    have hlen : Hid ((34 :: escs (s.data.toList.take k)).length ≤ 400000001) := Lib.hid (by
      have := escs_len (s.data.toList.take k); have : (s.data.toList.take k).length ≤ k := List.length_take_le _ _; simp only [List.length_cons]; omega)
    by_cases hlt : k < s.size
    · have htab' : Hid (EscTab wr) := Lib.hid (esc_below HT.out hbel (by rw [HW.out]; exact hw))
      have HK := Lib.hid (escs_take s k hlt)
      go_wp2_with (go_at_call 41; refine (appendWritten_any B _ _ _ _ hown' hsz.out (by have := hlen.out; omega) htab'.out).mono ?_; rintro e w' ⟨v2, rfl, hown2, hbel2⟩)
      go_roundw
      case rel => exact ⟨k + 1, by omega, by go_num, by rw [HK.out]; exact hown2, hbel.trans hbel2, Lib.hid (by have := hbel2.size; have := hsz.out; omega)⟩
      case measure => simp [intOf]; omega
    · go_wp2_with (at_builtin; refine wpList_append_own _ rfl _ _ 65 rfl B 5 i0 (.int .u8 0) 1 1 Tryz.underlying65 hi hz0 hz1 hz2 rfl (by decide) _ _ _ rfl (hown'.alloc _) ⟨wr.heap.size, 0, none⟩ 1 1 [.int .u8 34] rfl rfl (new_cells wr [.int .u8 34] _) (one_ints rfl) (by have := hlen.out; unfold maxLen; omega) (by have := hlen.out; omega) (by have := hsz.out; simp; omega) ?_; intro v' w2 hown2 hgrow2 _; have hcv := conv_own (l := 34 :: escs (s.data.toList.take k) ++ [34]) Tryz.underlying65 Tryz.underlying5 (by simpa [bc] using hown2) 9 Tryz.underlying9)
      go_ret
      refine ⟨ret_str (by rw [escs_all s k (by omega)]; rfl), ?_⟩
      exact (hbel.alloc hsz.out _).grown hgrow2 (by have := hsz.out; simp; omega) (fun k hk => (hown'.lt k hk).1)

theorem lit_conv (x : UInt8) (W : World) : (convert 65 9 (.slice (some ⟨W.heap.size, 0, none⟩) 1 1)).run Tryz.prog (W.alloc (.cells #[.int .u8 (x.toNat : Int)] 5)) = .ok (.string (str [x])) (W.alloc (.cells #[.int .u8 (x.toNat : Int)] 5)) :=
  conv_own (l := [x]) Tryz.underlying65 Tryz.underlying5 (World.ownsRow_lit (base := 0) (e := 5) (size := 1) W #[.int .u8 (x.toNat : Int)] 1 (by omega) (by decide) rfl) 9 Tryz.underlying9
theorem lit_conv2 (x y : UInt8) (W : World) : (convert 65 9 (.slice (some ⟨W.heap.size, 0, none⟩) 2 2)).run Tryz.prog (W.alloc (.cells #[.int .u8 (x.toNat : Int), .int .u8 (y.toNat : Int)] 5)) = .ok (.string (str [x, y])) (W.alloc (.cells #[.int .u8 (x.toNat : Int), .int .u8 (y.toNat : Int)] 5)) :=
  conv_own (l := [x, y]) Tryz.underlying65 Tryz.underlying5 (World.ownsRow_lit (base := 0) (e := 5) (size := 1) W #[.int .u8 (x.toNat : Int), .int .u8 (y.toNat : Int)] 2 (by omega) (by decide) rfl) 9 Tryz.underlying9

theorem str_cat (a b : List UInt8) : str a ++ str b = str (a ++ b) := by
  apply ByteArray.ext; simp [str]
theorem esc_at {c d : UInt8} {l : List UInt8} (hc : (c.toNat : Int) = (d.toNat : Int)) (h : esc d = l) : esc c = l := by
  have : c = d := by apply UInt8.toNat_inj.1; omega
  rw [this]; exact h

end Go.Proofs.YtnajkkbcfebegaaGreatDoor
