/- Contracts of words.appendWritten and the reference's escaped, hex: what stands for a byte within quotes. -/
import Derived.Test.YtnajkkbcfebegaaGreatDoorNames
import Derived.Handy
import Derived.WalkSpells
import Derived.WalkLawsBesides
namespace Go.Proofs.YtnajkkbcfebegaaGreatDoor
open Go.RowKit Go.PlainAid

def hexS : ByteArray := { data := #[48, 49, 50, 51, 52, 53, 54, 55, 56, 57, 97, 98, 99, 100, 101, 102] }
theorem and15_fin : ∀ n : Fin 256, bits BinOp.and IntKind.u8 (n.val : Int) 15 = (n.val : Int) % 16 := by decide +kernel
theorem and15 (c : UInt8) : bits BinOp.and IntKind.u8 (c.toNat : Int) 15 = (c.toNat : Int) % 16 := and15_fin ⟨c.toNat, c.toNat_lt⟩
def hexD (n : Nat) : UInt8 := if n < 10 then UInt8.ofNat (48 + n) else UInt8.ofNat (87 + n)
/-- What stands for a byte within quotes. -/
def esc (c : UInt8) : List UInt8 :=
  if plainB c.toNat then [c] else if c = 34 then [92, 34] else if c = 92 then [92, 92] else if c = 10 then [92, 110] else if c = 13 then [92, 114] else if c = 9 then [92, 116]
  else [92, 120, hexD (c.toNat / 16), hexD (c.toNat % 16)]

def escCells : Array Value := #[.int .u8 34, .int .u8 34, .int .u8 92, .int .u8 92, .int .u8 10, .int .u8 110, .int .u8 13, .int .u8 114, .int .u8 9, .int .u8 116]
/-- The table of escapes lies in its variable. -/
def EscTab (w : World) : Prop := ∃ t fr, w.heap[0]? = some (.cells escCells t fr)
theorem esc_below {B : Nat} {w w' : World} (h : EscTab w) (hb : Below B w w') (hB : 0 < B) : EscTab w' := by
  obtain ⟨t, fr, h⟩ := h; exact ⟨t, fr, (hb.block _ hB).trans h⟩
theorem esc_drewN {w : World} (h : EscTab w) (n : Nat) : EscTab (w.drewN n) := h

theorem info5 : (Tryz.prog.info? 5).map (fun i => (i.zero, i.size, i.bytes)) = some (some (.int .u8 0), 1, 1) := by kernel_rfl

def escChr (k : Nat) : Int := match k with | 0 => 34 | 1 => 92 | 2 => 10 | 3 => 13 | _ => 9
def escLet (k : Nat) : Int := match k with | 0 => 34 | 1 => 92 | 2 => 110 | 3 => 114 | _ => 116
theorem ix0 (w : World) : (Instr.index 96 (.agg escCells) (.int .i64 0)).run Tryz.prog w = .ok (.agg #[.int .u8 34, .int .u8 34]) w := by kernel_rfl
theorem ix1 (w : World) : (Instr.index 96 (.agg escCells) (.int .i64 1)).run Tryz.prog w = .ok (.agg #[.int .u8 92, .int .u8 92]) w := by kernel_rfl
theorem ix2 (w : World) : (Instr.index 96 (.agg escCells) (.int .i64 2)).run Tryz.prog w = .ok (.agg #[.int .u8 10, .int .u8 110]) w := by kernel_rfl
theorem ix3 (w : World) : (Instr.index 96 (.agg escCells) (.int .i64 3)).run Tryz.prog w = .ok (.agg #[.int .u8 13, .int .u8 114]) w := by kernel_rfl
theorem ix4 (w : World) : (Instr.index 96 (.agg escCells) (.int .i64 4)).run Tryz.prog w = .ok (.agg #[.int .u8 9, .int .u8 116]) w := by kernel_rfl
theorem ixk (k : Nat) (hk : k < 5) (w : World) : (Instr.index 96 (.agg escCells) (.int .i64 (k : Int))).run Tryz.prog w = .ok (.agg #[.int .u8 (escChr k), .int .u8 (escLet k)]) w := by
  match k, hk with
  | 0, _ => exact ix0 w
  | 1, _ => exact ix1 w
  | 2, _ => exact ix2 w
  | 3, _ => exact ix3 w
  | 4, _ => exact ix4 w

/-- What appendWritten leaves. -/
def Grew (B : Nat) (l : List UInt8) (w : World) (e : Ending) (w' : World) : Prop :=
  ∃ v', e = .returned v' ∧ w'.ownsRow B 5 1 v' l.length (l.map bc) ∧ Below B w w'

theorem grew_of {B : Nat} {l m : List UInt8} {w w1 : World} {o : Obj} {v v' : Value} (hB : B ≤ w.heap.size) (hv : w.ownsRow B 5 1 v l.length (l.map bc))
    (hown : w1.ownsRow B 5 1 v' (l.length + m.length) (l.map bc ++ m.map bc)) (hg : (w.alloc o).grownBy w1 v.ownBlock) : Grew B (l ++ m) w (.returned v') w1 :=
  ⟨v', rfl, by simpa using hown, ((Below.refl B w).alloc hB o).grown hg (by simp; omega) (fun k hk => (hv.lt k hk).1)⟩

theorem grew_of2 {B : Nat} {l m : List UInt8} {w wr w1 : World} {o o' : Obj} {v v' : Value} (hb : Below B w wr) (hB : B ≤ wr.heap.size) (hv : wr.ownsRow B 5 1 v l.length (l.map bc))
    (hown : w1.ownsRow B 5 1 v' (l.length + m.length) (l.map bc ++ m.map bc)) (hg : ((wr.alloc o).alloc o').grownBy w1 v.ownBlock) : Grew B (l ++ m) w (.returned v') w1 :=
  ⟨v', rfl, by simpa using hown, ((hb.alloc hB o).alloc (by simp; omega) o').grown hg (by simp; omega) (fun k hk => (hv.lt k hk).1)⟩

theorem grew_of3 {B : Nat} {l m : List UInt8} {w wr w1 : World} {o : Obj} {v v' : Value} (hb : Below B w wr) (hB : B ≤ wr.heap.size) (hv : wr.ownsRow B 5 1 v l.length (l.map bc))
    (hown : w1.ownsRow B 5 1 v' (l.length + m.length) (l.map bc ++ m.map bc)) (hg : (wr.alloc o).drew.grownBy w1 v.ownBlock) : Grew B (l ++ m) w (.returned v') w1 :=
  ⟨v', rfl, by simpa using hown, ((hb.alloc hB o).drew).grown hg (by simp; omega) (fun k hk => (hv.lt k hk).1)⟩
theorem bt_hex_fin : ∀ n : Fin 16, bt hexS n.val = ((hexD n.val).toNat : Int) := by decide +kernel
theorem bt_hex (n : Nat) (h : n < 16) : bt hexS n = ((hexD n).toNat : Int) := bt_hex_fin ⟨n, h⟩
theorem hex_cells {c : UInt8} {ci d d' : Int} (hc : ci = (c.toNat : Int)) (h1 : ci / 16 = d) (h2 : ci % 16 = d') :
    ([92, 120, hexD (c.toNat / 16), hexD (c.toNat % 16)].map bc) = [.int .u8 92, .int .u8 120, .int .u8 (bt hexS d.toNat), .int .u8 (bt hexS d'.toNat)] := by
  have := c.toNat_lt
  have e1 : d.toNat = c.toNat / 16 := by omega
  have e2 : d'.toNat = c.toNat % 16 := by omega
  rw [e1, e2, bt_hex _ (by omega), bt_hex _ (by omega)]
  rfl

set_option maxHeartbeats 800000 in
theorem aw_plain (B : Nat) (v : Value) (l : List UInt8) (c : UInt8) (w : World) (hown : w.ownsRow B 5 1 v l.length (l.map bc)) (hB : B ≤ w.heap.size) (hl : l.length ≤ 1000000000)
    (hp : plainB c.toNat = true) :
    Calls Tryz.prog 41 #[v, .int .u8 c.toNat] w (Grew B (l ++ [c]) w) := by
  obtain ⟨i0, hi, hz0, hz1, hz2⟩ := info_parts info5
  go_enter Tryz.func41, Tryz.ntmps41
  go_wp2_with (first | (go_at_call 56; refine (plainByte_any _ _).mono ?_; rintro e w' ⟨rfl, rfl⟩) | (at_builtin; refine wpList_append_own _ rfl _ _ 65 rfl B 5 i0 (.int .u8 0) 1 1 Tryz.underlying65 hi hz0 hz1 hz2 rfl (by decide) _ _ _ rfl (hown.alloc _) ⟨w.heap.size, 0, none⟩ 1 1 [bc c] rfl rfl (new_cells w [bc c] _) (one_bc [c]) (by unfold maxLen; omega) (by omega) (by simp; omega) ?_; intro v' w1 hown' hgrow _))
  go_ret
  exact grew_of (m := [c]) hB hown hown' hgrow

theorem esc_two {c : UInt8} {k : Nat} (hk : k < 5) (h : escChr k = (c.toNat : Int)) : ∃ x : UInt8, (x.toNat : Int) = escLet k ∧ esc c = [92, x] := by
  have hc : c = UInt8.ofNat (escChr k).toNat := by rw [h]; simp
  match k, hk with
  | 0, _ => exact ⟨34, rfl, by rw [hc]; rfl⟩
  | 1, _ => exact ⟨92, rfl, by rw [hc]; rfl⟩
  | 2, _ => exact ⟨110, rfl, by rw [hc]; rfl⟩
  | 3, _ => exact ⟨114, rfl, by rw [hc]; rfl⟩
  | 4, _ => exact ⟨116, rfl, by rw [hc]; rfl⟩
theorem esc_hex {c : UInt8} (hp : plainB c.toNat = false) (h : ∀ k, k < 5 → escChr k ≠ (c.toNat : Int)) : esc c = [92, 120, hexD (c.toNat / 16), hexD (c.toNat % 16)] := by
  have g : ∀ (k : Nat) (d : UInt8), k < 5 → (d.toNat : Int) = escChr k → c ≠ d := fun k d hk hd e => h k hk (by rw [e, hd])
  unfold esc
  rw [hp]
  simp only [Bool.false_eq_true, if_false, g 0 34 (by omega) rfl, g 1 92 (by omega) rfl, g 2 10 (by omega) rfl, g 3 13 (by omega) rfl, g 4 9 (by omega) rfl]

set_option maxHeartbeats 1600000 in
set_option maxRecDepth 20000 in
theorem aw_other (B : Nat) (v : Value) (l : List UInt8) (c : UInt8) (w : World) (hown : w.ownsRow B 5 1 v l.length (l.map bc)) (hB : B ≤ w.heap.size) (hl : l.length ≤ 1000000000)
    (htab : EscTab w) (hp : plainB c.toNat = false) :
    Calls Tryz.prog 41 #[v, .int .u8 c.toNat] w (Grew B (l ++ esc c) w) := by
  obtain ⟨i0, hi, hz0, hz1, hz2⟩ := info_parts info5
  obtain ⟨tt, fr, htab'⟩ := htab
  have HB := Lib.hid hB
  have HP := Lib.hid hp
  obtain ⟨ci, hci⟩ : ∃ ci : Int, ci = (c.toNat : Int) := ⟨_, rfl⟩
  rw [← hci]
  rw [← hci] at hp
  have HC := Lib.hid hci
  clear hci
  go_enter Tryz.func41, Tryz.ntmps41
  go_wp2_with (first | (go_at_call 56; refine (plainByte_any _ _).mono ?_; rintro e w' ⟨rfl, rfl⟩) | (refine wpList_load_row rfl 96 _ rfl 0 rfl tt _ fr _ htab' Tryz.underlying96 rfl (by kernel_rfl) ?_))
  clear hp htab' hB
  go_loopw [14] (fun i wr => ∃ k : Nat, k ≤ 5 ∧ i = .int .i64 k ∧ wr.ownsRow B 5 1 v l.length (l.map bc) ∧ Below B w wr ∧ Hid (B ≤ wr.heap.size) ∧ Hid (∀ j, j < k → escChr j ≠ ci)) (fun i _ => 5 - (intOf i).toNat)
  case atStart => exact ⟨0, by omega, rfl, hown, Below.refl _ _, HB, Lib.hid (fun j hj => by omega)⟩
  case round =>
    obtain ⟨k, hk, rfl, hown', hbel, hsz, hno⟩ := hrel
    by_cases hk5 : k < 5
    · have hx := ixk k hk5
      cases hq : (escChr k == ci)
      · go_wp2
        go_roundw
        case rel => exact ⟨k + 1, by omega, by go_num, hown'.alloc _, hbel.alloc hsz.out _, Lib.hid (by have := hsz.out; simp; omega), Lib.hid (fun j hj => by
          by_cases e : j = k
          · rw [e]; simpa using hq
          · exact hno.out j (by omega))⟩
        case measure => simp [intOf]; omega
      · obtain ⟨x, hx1, hx2⟩ := esc_two hk5 (by rw [← HC.out]; simpa using hq)
        have HX := Lib.hid hx2
        have HE := Lib.hid hx1
        clear hx1 hx2
        go_wp2_with (at_builtin; refine wpList_append_own _ rfl _ _ 65 rfl B 5 i0 (.int .u8 0) 1 1 Tryz.underlying65 hi hz0 hz1 hz2 rfl (by decide) _ _ _ rfl ((hown'.alloc _).alloc _) ⟨wr.heap.size + 1, 0, none⟩ 2 2 [.int .u8 92, .int .u8 (escLet k)] rfl rfl (new_cells2 _ _ _ _ _ (by simp)) (one_ints rfl) (by unfold maxLen; omega) (by omega) (by have := hsz.out; simp; omega) ?_; intro v' w1 hown2 hgrow _)
        go_ret
        rw [HX.out]
        refine grew_of2 (m := [92, x]) hbel hsz.out hown' ?_ hgrow
        rw [← HE.out] at hown2
        exact hown2
    · have hk' : k = 5 := by omega
      obtain rfl := hk'
      have h0 : 0 ≤ ci := by rw [HC.out]; omega
      have h1 : ci ≤ 255 := by rw [HC.out]; have := c.toNat_lt; omega
      have hbt := get_bt hexS
      have e1 : bits BinOp.and IntKind.u8 ci 15 = ci % 16 := by rw [HC.out]; exact and15 c
      obtain ⟨d, hd⟩ : ∃ d : Int, ci / 16 = d := ⟨_, rfl⟩
      obtain ⟨d', hd'⟩ : ∃ d : Int, ci % 16 = d := ⟨_, rfl⟩
      rw [hd'] at e1
      have b1 : 0 ≤ d := by omega
      have b2 : d < 16 := by omega
      have b3 : 0 ≤ d' := by omega
      have b4 : d' < 16 := by omega
      have HD := Lib.hid (And.intro hd hd')
      clear hd'
      unfold hexS at hbt
      go_wp2
      go_region_law (refine step_append_own rfl _ _ 65 rfl B 5 i0 (.int .u8 0) 1 1 Tryz.underlying65 hi hz0 hz1 hz2 rfl (by decide) _ _ _ rfl ((hown'.alloc _).drew) ⟨wr.heap.size, 0, none⟩ 4 4 [.int .u8 92, .int .u8 120, _, _] rfl rfl (new_cells4 _ _ _ _ _ _ _ (by simp)) (one_ints rfl) (by unfold maxLen; omega) (by omega) (by have := hsz.out; simp; omega) ?_; intro v' w1 hown2 hgrow _)
      all_goals
        go_wp2
        go_ret
        have h5 := hno.out
        rw [esc_hex HP.out (fun j hj => by rw [← HC.out]; exact h5 j hj)]
        refine grew_of3 (m := [92, 120, hexD (c.toNat / 16), hexD (c.toNat % 16)]) hbel hsz.out hown' ?_ hgrow
        rw [show ([92, 120, hexD (c.toNat / 16), hexD (c.toNat % 16)].map bc) = _ from hex_cells HC.out HD.out.1 HD.out.2]
        exact hown2
end Go.Proofs.YtnajkkbcfebegaaGreatDoor
