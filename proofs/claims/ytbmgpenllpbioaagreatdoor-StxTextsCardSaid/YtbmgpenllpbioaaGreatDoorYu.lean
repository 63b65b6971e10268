/- Kids, Same. -/
import Derived.Test.YtbmgpenllpbioaaGreatDoorYi
import Derived.Test.YtbmgpenllpbioaaGreatDoorYt
namespace Go.Proofs.YtbmgpenllpbioaaGreatDoor
open Go.RowKit Go.PlainAid

def kidR (l : List Sx) (i : Int) : List Nat × Int := if askX l i ≠ 0 then ([], askX l i) else (kidsN (kidsX l) i.toNat, 0)
/-- What Kids returns. -/
def KidV (r : List Nat × Int) (w : World) (e : Ending) (w' : World) : Prop := ∃ a c, e = .returned (.tuple #[.slice a r.1.length c, .int .i64 r.2]) ∧ Hid (w'.ownsRow w.heap.size 3 1 (.slice a r.1.length c) r.1.length (natC r.1)) ∧ Below w.heap.size w w'
theorem kidV_of {r : List Nat × Int} {w w' : World} {ks : List Nat} {er : Int} {n : Nat} {a : Option Addr} {c : Nat} (h : r = (ks, er)) (hn : ks.length = n) (ho : w'.ownsRow w.heap.size 3 1 (.slice a n c) n (natC ks)) (hb : Below w.heap.size w w') : KidV r w (.returned (.tuple #[.slice a n c, .int .i64 er])) w' := by
  subst h hn; exact ⟨a, c, rfl, Lib.hid ho, hb⟩
theorem kidsN_take {ks : List Nat} {i j : Nat} (hj : j < cnt ks i) : (kidsN ks i).take (j + 1) = (kidsN ks i).take j ++ [posK ks i j] := by
  rw [List.take_add_one, kidsN_at hj]; rfl
theorem natC_app (a b : List Nat) : natC (a ++ b) = natC a ++ natC b := List.map_append
set_option maxRecDepth 50000 in
set_option maxHeartbeats 6400000 in
theorem Kids_any (v : Value) (l : List Sx) (i : Int) (w : World) (h : XsAt w v l) (hs : SmX l) (hi : InX l) (T : STabs w) :
    Calls Tryz.prog 16 #[v, .int .i64 i] w (KidV (kidR l i) w) := by
  have C := Lib.hid (checkWithX_any v l i w h hs hi T)
  obtain ⟨va, vc, rfl, _⟩ := h.slice
  by_cases he : askX l i = 0
  case neg =>
    have HW : Hid (kidR l i = ([], askX l i)) := Lib.hid (by unfold kidR; rw [if_pos he])
    obtain ⟨z, hz⟩ : ∃ z, askX l i = z := ⟨_, rfl⟩
    rw [hz] at C HW he
    have hne : (z != 0) = true := bne_iff_ne.2 he
    obtain ⟨n, hn⟩ : ∃ n, l.length = n := ⟨_, rfl⟩
    rw [hn] at C ⊢
    clear h hs hi T hn he hz
    go_enter Tryz.func16, Tryz.ntmps16
    go_wp2_with fail
    refine C.out.mono ?_
    rintro e w1 ⟨rfl, hb1⟩
    go_wp2_with fail
    go_ret2
    exact kidV_of HW.out rfl (own_nilX _ _ _ _) hb1
  obtain ⟨g, off, p, E, rfl, rfl, hp, hpn, hpE, hEn, hend, hn2, hcap, _, _⟩ := sub_at h hi he
  obtain ⟨h1, _, _⟩ := askX_0 he
  have hT := chkX_tr h1
  have hpk : p < (kidsX l).length := by rw [kidsX_len]; exact hpn
  obtain ⟨x, hx⟩ : ∃ x, l[p]? = some x := ⟨_, List.getElem?_eq_getElem hpn⟩
  obtain ⟨K, hK⟩ : ∃ K : Nat, x.c = (K : Int) := ⟨x.c.toNat, by have := chkX_kids h1 x (List.mem_of_getElem? hx); omega⟩
  have hcnt : cnt (kidsX l) p = K := by rw [cnt_of (kidsX_at hx), hK, Int.toNat_natCast]
  have hK2 : K ≤ 2000 := by
    have := hT.pos_mono hpk (d := K) (k := 0) (by omega)
    have e := hT.pos_end hpk
    rw [hcnt, hend] at e
    rw [Nat.zero_add, e] at this; omega
  have HW : Hid (kidR l (p : Int) = (kidsN (kidsX l) p, 0) ∧ (kidsN (kidsX l) p).length = K) := Lib.hid ⟨by unfold kidR; rw [if_neg (by simpa using he), hp], by rw [kidsN_len, hcnt]⟩
  have HCell : Hid (∀ W, Below w.heap.size w W → W.cell? ⟨g, off + p * 8 + 1, none⟩ = some (.int .i64 (K : Int))) := Lib.hid fun W hW => by
    obtain ⟨g', off', e, _, _, c1, _⟩ := (h.below hW (Nat.le_refl _)).node hx
    cases e; rw [hK] at c1; exact c1
  have HSt : Hid (∀ j, j < K → ∃ q q' : Nat, posK (kidsX l) p j = q ∧ posK (kidsX l) p (j + 1) = q' ∧ q < q' ∧ q' ≤ 2000 ∧ ∀ W, Below w.heap.size w W → Calls Tryz.prog 51 #[.slice (some ⟨g, off, none⟩) l.length vc, .int .i64 (q : Int)] W fun e w' => e = .returned (.slice (some ⟨g, off + q * 8, none⟩) (q' - q) (q' - q)) ∧ w' = W) := Lib.hid fun j hj => by
    obtain ⟨s1, s2, s3⟩ := hT.pos_step hpk (k := j) (by omega)
    rw [kidsX_len] at s2
    have s4 := hT.end_bd (p := posK (kidsX l) p j) (by rw [kidsX_len]; exact s2)
    rw [s3, kidsX_len] at s4
    refine ⟨_, _, rfl, rfl, s4.1, by omega, fun W hW => ?_⟩
    have := subtree_any g off l.length vc (posK (kidsX l) p j) l W (h.below hW (Nat.le_refl _)) h1 s2 hi
    rw [s3] at this; exact this
  have HP0 : Hid (posK (kidsX l) p 0 = p + 1) := Lib.hid (posK_start hpk)
  have HKl : Hid (∀ j, j < K → (kidsN (kidsX l) p).take (j + 1) = (kidsN (kidsX l) p).take j ++ [posK (kidsX l) p j]) := Lib.hid fun j hj => kidsN_take (by omega)
  obtain ⟨n, hn⟩ : ∃ n, l.length = n := ⟨_, rfl⟩
  rw [he] at C
  rw [hn] at C HSt hpn hEn hn2 hcap ⊢
  have b0 : (0 : Int) ≤ (p : Int) := Int.natCast_nonneg _
  have b1 : (p : Int) < (n : Int) := by omega
  obtain ⟨i0, hi0, hz0, hz1, hz2⟩ := info_parts2 infoInt
  clear h hs hi T hn he h1 hT hpk hx hK hcnt hp hend
  go_enter Tryz.func16, Tryz.ntmps16
  go_wp2_with fail
  refine C.out.mono ?_
  rintro e w1 ⟨rfl, hb1⟩
  have c0 := HCell.out w1 hb1
  have HB1 := Lib.hid hb1
  go_wp2_with fail
  -- MARK1
  go_loopw [7, 8, 22] (fun x7 x8 x22 wr => ∃ (j q : Nat) (b : Option Addr) (c : Nat), x7 = .slice b j c ∧ x8 = .int .i64 (q : Int) ∧ x22 = .int .i64 (j : Int) ∧ j ≤ K ∧ Hid (posK (kidsX l) p j = q) ∧ Hid (wr.ownsRow w.heap.size 3 1 (.slice b j c) j (natC ((kidsN (kidsX l) p).take j))) ∧ Below w.heap.size w wr) (fun _ _ x22 _ => K - (intOf x22).toNat)
  case atStart => exact ⟨0, p + 1, none, 0, rfl, by go_num, rfl, Nat.zero_le _, Lib.hid HP0.out, Lib.hid (by rw [List.take_zero]; exact own_nilX _ _ _ _), HB1.out⟩
  case round =>
    obtain ⟨j, q, b, c, rfl, rfl, rfl, hj, HQ, HO, hb⟩ := hrel
    by_cases hlt : j < K
    · obtain ⟨q1, q', e1, e2, hqq, hq2, HSub⟩ := HSt.out j hlt
      have e3 : q = q1 := HQ.out.symm.trans e1
      subst e3
      have HSb := Lib.hid HSub
      have HQ2 := Lib.hid e2
      have HT1 : Hid (natC ((kidsN (kidsX l) p).take (j + 1)) = natC ((kidsN (kidsX l) p).take j) ++ [.int .i64 (q : Int)]) := Lib.hid (by rw [HKl.out j hlt, natC_app, e1]; rfl)
      have hd : decide ((j : Int) < (K : Int)) = true := decide_eq_true (by omega)
      have hbs := hb.size
      have w5 : IntKind.i64.wrap ((q : Int) + ((q' - q : Nat) : Int)) = (q' : Int) := by rw [IntKind.wrap_i64]; omega
      clear HSub e1 e2
      go_wp2_with (at_builtin; refine wpList_append_own _ rfl _ _ 33 rfl w.heap.size 3 i0 (.int .i64 0) 1 8 Tryz.underlying33 hi0 hz0 hz1 hz2 rfl (by decide) _ _ _ rfl (HO.out.alloc _) ⟨wr.heap.size, 0, none⟩ 1 1 [.int .i64 (q : Int)] rfl rfl (new_cells1 _ _ _ _ rfl) (by simp [Value.oneCell']) (by unfold maxLen; omega) (by omega) (by rw [World.size_alloc]; omega) ?_; intro v4 w4 hown4 hgrow4 _; obtain ⟨b4, cb4, rfl⟩ := own_lenR hown4; have hb4 : Below w.heap.size w w4 := (hb.alloc hb.size _).grown hgrow4 (by rw [World.size_alloc]; omega) (fun k hk => (HO.out.lt k hk).1); have HO4 := Lib.hid hown4; clear hown4 hgrow4)
      -- MARK2
      refine (HSb.out w4 hb4).mono ?_
      rintro e w5 ⟨rfl, rfl⟩
      go_wp2_with fail
      go_roundw
      case rel => exact ⟨j + 1, q', b4, cb4, rfl, by go_num, by go_num, by omega, HQ2, Lib.hid (by rw [HT1.out]; exact HO4.out), hb4⟩
      case measure => simp [intOf]; omega
    · obtain rfl : j = K := by omega
      have hd : decide ((j : Int) < (j : Int)) = false := decide_eq_false (Int.lt_irrefl _)
      have HF : Hid ((kidsN (kidsX l) p).take j = kidsN (kidsX l) p) := Lib.hid (List.take_of_length_le (Nat.le_of_eq HW.out.2))
      go_wp2_with fail
      -- MARK3
      go_ret2
      exact kidV_of HW.out.1 HW.out.2 (by have := HO.out; rw [HF.out] at this; exact this) hb
def sameX (a b : Sx) : Bool := decide (a.k = 3 ∧ b.k = 3 ∧ a.s = b.s ∧ a.p = b.p)
theorem str_beq (a b : List UInt8) : ((str a).toList == (str b).toList) = decide (a = b) := by
  rw [ByteArray.toList_eq, ByteArray.toList_eq]
  show (a == b) = _
  rw [Bool.eq_iff_iff, beq_iff_eq, decide_eq_true_iff]
set_option maxRecDepth 50000 in
set_option maxHeartbeats 3200000 in
theorem Same_x (x y : Sx) (w : World) : Calls Tryz.prog 42 #[sxA x, sxA y] w fun e w' => e = .returned (.bool (sameX x y)) ∧ Below w.heap.size w w' := by
  obtain ⟨x0, x1, x2, x3, x4, x5, x6, x7⟩ := x
  obtain ⟨y0, y1, y2, y3, y4, y5, y6, y7⟩ := y
  have hb3 := str_beq x3 y3
  have hb4 := str_beq x4 y4
  obtain ⟨b3, h3⟩ : ∃ b, decide (x3 = y3) = b := ⟨_, rfl⟩
  obtain ⟨b4, h4⟩ : ∃ b, decide (x4 = y4) = b := ⟨_, rfl⟩
  obtain ⟨bx, hx⟩ : ∃ b, (x0 == 3) = b := ⟨_, rfl⟩
  obtain ⟨by', hy⟩ : ∃ b, (y0 == 3) = b := ⟨_, rfl⟩
  have HV : Hid (sameX ⟨x0, x1, x2, x3, x4, x5, x6, x7⟩ ⟨y0, y1, y2, y3, y4, y5, y6, y7⟩ = (bx && (by' && (b3 && b4)))) := Lib.hid (by
    unfold sameX; rw [← h3, ← h4, ← hx, ← hy, Bool.eq_iff_iff]
    simp only [decide_eq_true_eq, Bool.and_eq_true, beq_iff_eq])
  rw [h3] at hb3
  rw [h4] at hb4
  show Calls _ _ #[.agg #[.int .i64 x0, .int .i64 x1, .int .i64 x2, .string (str x3), .string (str x4), .int .i64 x5, .int .i64 x6, .int .i64 x7], .agg #[.int .i64 y0, .int .i64 y1, .int .i64 y2, .string (str y3), .string (str y4), .int .i64 y5, .int .i64 y6, .int .i64 y7]] _ _
  obtain ⟨S3, hS3⟩ : ∃ S, str x3 = S := ⟨_, rfl⟩
  obtain ⟨S4, hS4⟩ : ∃ S, str x4 = S := ⟨_, rfl⟩
  obtain ⟨T3, hT3⟩ : ∃ S, str y3 = S := ⟨_, rfl⟩
  obtain ⟨T4, hT4⟩ : ∃ S, str y4 = S := ⟨_, rfl⟩
  rw [hS3, hT3] at hb3
  rw [hS4, hT4] at hb4
  rw [hS3, hS4, hT3, hT4]
  have HB : Hid (∀ o o', Below w.heap.size w ((w.alloc o).alloc o')) := Lib.hid fun o o' => (below_b1 w o).alloc (by rw [World.size_alloc]; omega) o'
  clear h3 h4 hS3 hS4 hT3 hT4
  cases bx <;> cases by' <;> cases b3 <;> cases b4 <;> (
    go_enter Tryz.func42, Tryz.ntmps42
    go_wp2_with fail
    go_ret
    exact ⟨ret_bool HV.out.symm, HB.out _ _⟩)
-- MARK9
end Go.Proofs.YtbmgpenllpbioaaGreatDoor
