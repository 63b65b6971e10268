import Derived.Test.YtdiinlmeoifgjaaGreatDoorShelf
import Derived.Test.YtdiinlmeoifgjaaGreatDoorZb
import Derived.Test.YtdiinlmeoifgjaaGreatDoorShelf
import Derived.Laws.Rows
import Derived.RangeFuncNested
import Derived.RangeFuncBound
import Derived.RangeFuncCalls
import Derived.RangeFuncLeaves
import Derived.Shelf.Abstract
import Derived.Shelf.RegionOpen
import Derived.WalkKit
import Derived.WalkMore
import Derived.BigGuardPart
import Derived.OwnWalkIn
import Derived.TacticsInMore
import Derived.LoopNIn
import Derived.LoopIn
import Derived.BigGuardPartIn
import Derived.Laws.AppendOwnNone
/- runes.Class. -/
namespace Go.Proofs.YtdiinlmeoifgjaaGreatDoor
open Go.RowKit Go.PlainAid

/-- The bytes that are runes of each class. -/
def memS : List (List UInt8) := [[], [9, 10, 13, 32], [40, 91], [41, 93], [39], [35], [59], [48, 49, 50, 51, 52, 53, 54, 55, 56, 57], [43, 45], [97, 98, 99, 100, 101, 102, 103, 104, 105, 106, 107, 108, 109, 110, 111, 112, 113, 114, 115, 116, 117, 118, 119, 120, 121, 122, 65, 66, 67, 68, 69, 70, 71, 72, 73, 74, 75, 76, 77, 78, 79, 80, 81, 82, 83, 84, 85, 86, 87, 88, 89, 90, 33, 36, 37, 38, 42, 47, 58, 60, 61, 62, 63, 94, 95, 126, 46, 64]]
def memCells : Array Value := (memS.map fun l => Value.string (str l)).toArray
def MembersTab (w : World) : Prop := ∃ t fr, w.heap[0]? = some (.cells memCells t fr)
theorem members_below {B : Nat} {w w' : World} (h : MembersTab w) (hb : Below B w w') (hB : 0 < B) : MembersTab w' := by
  obtain ⟨t, fr, h⟩ := h; exact ⟨t, fr, (hb.block _ hB).trans h⟩
def mem (k : Nat) : List UInt8 := memS.getD k []
theorem mx0 (w : World) : (Instr.index 127 (.agg memCells) (.int .i64 0)).run Tryz.prog w = .ok (.string (str (mem 0))) w := by kernel_rfl
theorem mx1 (w : World) : (Instr.index 127 (.agg memCells) (.int .i64 1)).run Tryz.prog w = .ok (.string (str (mem 1))) w := by kernel_rfl
theorem mx2 (w : World) : (Instr.index 127 (.agg memCells) (.int .i64 2)).run Tryz.prog w = .ok (.string (str (mem 2))) w := by kernel_rfl
theorem mx3 (w : World) : (Instr.index 127 (.agg memCells) (.int .i64 3)).run Tryz.prog w = .ok (.string (str (mem 3))) w := by kernel_rfl
theorem mx4 (w : World) : (Instr.index 127 (.agg memCells) (.int .i64 4)).run Tryz.prog w = .ok (.string (str (mem 4))) w := by kernel_rfl
theorem mx5 (w : World) : (Instr.index 127 (.agg memCells) (.int .i64 5)).run Tryz.prog w = .ok (.string (str (mem 5))) w := by kernel_rfl
theorem mx6 (w : World) : (Instr.index 127 (.agg memCells) (.int .i64 6)).run Tryz.prog w = .ok (.string (str (mem 6))) w := by kernel_rfl
theorem mx7 (w : World) : (Instr.index 127 (.agg memCells) (.int .i64 7)).run Tryz.prog w = .ok (.string (str (mem 7))) w := by kernel_rfl
theorem mx8 (w : World) : (Instr.index 127 (.agg memCells) (.int .i64 8)).run Tryz.prog w = .ok (.string (str (mem 8))) w := by kernel_rfl
theorem mx9 (w : World) : (Instr.index 127 (.agg memCells) (.int .i64 9)).run Tryz.prog w = .ok (.string (str (mem 9))) w := by kernel_rfl
theorem mxk (k : Nat) (hk : k < 10) (w : World) : (Instr.index 127 (.agg memCells) (.int .i64 (k : Int))).run Tryz.prog w = .ok (.string (str (mem k))) w := by
  match k, hk with
  | 0, _ => exact mx0 w
  | 1, _ => exact mx1 w
  | 2, _ => exact mx2 w
  | 3, _ => exact mx3 w
  | 4, _ => exact mx4 w
  | 5, _ => exact mx5 w
  | 6, _ => exact mx6 w
  | 7, _ => exact mx7 w
  | 8, _ => exact mx8 w
  | 9, _ => exact mx9 w
/-- The first class from k on that has a byte. -/
def clsGo : Nat → Nat → UInt8 → Int
  | 0, _, _ => 10
  | f + 1, k, c => if 0 ≤ Lib.indexByte (mem k) c then (k : Int) else clsGo f (k + 1) c
def clsS (r : Int) : Int := if isR r = false then 0 else if 161 ≤ r then 9 else clsGo 10 0 (u8 r)
def clsV (r : Int) : Value := .tuple #[.int .i64 (clsS r), .int .i64 (if isR r then 0 else 7)]

set_option maxHeartbeats 1600000 in
theorem class_any (r : Int) (w : World) (hm : MembersTab w) : Calls Tryz.prog 76 #[.int .i32 r] w fun e w' => e = .returned (clsV r) ∧ w = w' := by
  have C := fun w => widthOf_any r w
  cases hr : isR r
  · have C0 : Hid (∀ w, Calls Tryz.prog 81 #[.int .i32 r] w fun e w' => e = .returned (.int .i64 0) ∧ w = w') := Lib.hid (by
      intro w; have := C w; rw [wO_0 hr] at this; exact this)
    have HV : Hid (clsV r = .tuple #[.int .i64 0, .int .i64 7]) := Lib.hid (by unfold clsV clsS; rw [hr]; rfl)
    clear C hr hm
    go_enter Tryz.func76, Tryz.ntmps76
    go_wp2_with (go_at_call 81; refine (C0.out _).mono ?_; rintro e w' ⟨rfl, rfl⟩)
    go_ret2
    exact ⟨(congrArg Ending.returned HV.out).symm, rfl⟩
  · obtain ⟨n, hn⟩ : ∃ n, n = wO r := ⟨_, rfl⟩
    have hb := isR_iff.1 hr
    have hp : 1 ≤ n := by rw [hn]; exact wO_pos hr
    have hz : ((n : Int) == 0) = false := beq_eq_false_iff_ne.2 (by omega)
    have C0 : Hid (∀ w, Calls Tryz.prog 81 #[.int .i32 r] w fun e w' => e = .returned (.int .i64 (n : Int)) ∧ w = w') := Lib.hid (by
      rw [hn]; exact C)
    by_cases h9 : 161 ≤ r
    · have HV : Hid (clsV r = .tuple #[.int .i64 9, .int .i64 0]) := Lib.hid (by unfold clsV clsS; rw [hr, if_neg (by simp), if_pos h9]; rfl)
      clear C hr hm hn hp
      go_enter Tryz.func76, Tryz.ntmps76
      go_wp2_with (go_at_call 81; refine (C0.out _).mono ?_; rintro e w' ⟨rfl, rfl⟩)
      go_ret2
      exact ⟨(congrArg Ending.returned HV.out).symm, rfl⟩
    · obtain ⟨tt, fr, htab'⟩ := hm
      have hlt : r ≤ 160 := by omega
      have hge : 0 ≤ r := hb.1
      have HV : Hid (∀ x, clsGo 10 0 (u8 r) = x → clsV r = .tuple #[.int .i64 x, .int .i64 0]) := Lib.hid (by
        rintro x rfl; unfold clsV clsS; rw [hr, if_neg (by simp), if_neg (by omega)]; rfl)
      have CI : Hid (∀ (k : Nat) (w : World), Calls Tryz.prog 82 #[.string (str (mem k)), .int .u8 r] w fun e w' => e = .returned (.int .i64 (Lib.indexByte (mem k) (u8 r))) ∧ w = w') := Lib.hid (by
        intro k w
        refine (Tryz.strings_IndexByte (str (mem k)) r w).mono ?_
        rintro e w' ⟨h1, h2⟩
        exact ⟨h1, h2.symm⟩)
      have MX : Hid (∀ k : Nat, k < 10 → ∀ w : World, (Instr.index 127 (.agg memCells) (.int .i64 (k : Int))).run Tryz.prog w = .ok (.string (str (mem k))) w) := Lib.hid mxk
      clear C hr hn hp hb h9
      go_enter Tryz.func76, Tryz.ntmps76
      go_wp2_with (first | (go_at_call 81; refine (C0.out _).mono ?_; rintro e w' ⟨rfl, rfl⟩) | (refine wpList_load_row rfl 127 _ rfl 0 rfl tt _ fr _ htab' Tryz.underlying127 rfl (by kernel_rfl) ?_))
      go_loop [12] (fun i => ∃ k : Nat, k ≤ 10 ∧ i = .int .i64 k ∧ Hid (clsGo 10 0 (u8 r) = clsGo (10 - k) k (u8 r))) (fun i => 10 - (intOf i).toNat)
      case atStart => exact ⟨0, by omega, rfl, Lib.hid rfl⟩
      case round =>
        obtain ⟨k, hk, rfl, HG⟩ := hrel
        by_cases hlt : k < 10
        · have mx := MX.out k hlt
          obtain ⟨x, hx⟩ : ∃ x, x = Lib.indexByte (mem k) (u8 r) := ⟨_, rfl⟩
          have CK : Hid (∀ (w : World), Calls Tryz.prog 82 #[.string (str (mem k)), .int .u8 r] w fun e w' => e = .returned (.int .i64 x) ∧ w = w') := Lib.hid (by rw [hx]; exact CI.out k)
          have HS : Hid (clsGo (10 - k) k (u8 r) = if 0 ≤ x then (k : Int) else clsGo (10 - (k + 1)) (k + 1) (u8 r)) := Lib.hid (by
            rw [show 10 - k = 10 - (k + 1) + 1 by omega, clsGo, hx])
          clear hx
          by_cases h0 : 0 ≤ x
          · go_wp2_with (go_at_call 82; refine (CK.out _).mono ?_; rintro e w' ⟨rfl, rfl⟩)
            go_ret2
            exact ⟨(congrArg Ending.returned (HV.out (k : Int) (by rw [HG.out, HS.out, if_pos h0]))).symm, rfl⟩
          · go_wp2_with (go_at_call 82; refine (CK.out _).mono ?_; rintro e w' ⟨rfl, rfl⟩)
            go_round
            case rel => exact ⟨k + 1, by omega, by go_num, Lib.hid (by rw [HG.out, HS.out, if_neg (by omega)])⟩
            case measure => simp [intOf]; omega
        · obtain rfl : k = 10 := by omega
          go_wp2
          go_ret2
          exact ⟨(congrArg Ending.returned (HV.out 10 (by rw [HG.out]; rfl))).symm, rfl⟩
end Go.Proofs.YtdiinlmeoifgjaaGreatDoor

/- runes.Check; the reference's SameInts and Same. -/
namespace Go.Proofs.YtdiinlmeoifgjaaGreatDoor
open Go.RowKit Go.PlainAid

theorem below_same {B : Nat} {w w1 w2 : World} (h : Below B w w1) (e : w1 = w2) : Below B w w2 := e ▸ h
def chkV (L : List UInt8) : Value := .tuple #[.int .i64 ((chkS L).1 : Int), .int .i64 (chkS L).2]

set_option maxRecDepth 100000 in
set_option maxHeartbeats 1600000 in
theorem check_anyR (v : Value) (l : List UInt8) (w : World) (h : BytesAt w v l) (hl : l.length ≤ 1000000000) (hm : MarksTab w) (hg : 1 < w.heap.size) :
    Calls Tryz.prog 74 #[v] w fun e w' => e = .returned (chkV l) ∧ Below w.heap.size w w' := by
  obtain ⟨a, cap, hv⟩ := h.slice
  obtain ⟨n, hn⟩ : ∃ n, n = l.length := ⟨_, rfl⟩
  rw [List.length_map, ← hn] at hv
  by_cases h8 : 8000 < n
  · have HV : Hid (chkV l = .tuple #[.int .i64 0, .int .i64 3]) := Lib.hid (by unfold chkV chkS; rw [if_pos (by omega)]; rfl)
    subst hv
    clear h hm hn hl
    go_enter Tryz.func74, Tryz.ntmps74
    go_wp2
    go_ret2
    exact ⟨(congrArg Ending.returned HV.out).symm, Below.refl _ _⟩
  · have HV : Hid (∀ (k : Nat) (e : Int), wid (runs l).1 = k → (runs l).2 = e → chkV l = .tuple #[.int .i64 (k : Int), .int .i64 e]) := Lib.hid (by
      rintro k e rfl rfl; unfold chkV chkS; rw [if_neg (by omega)])
    have h8' : n ≤ 8000 := by omega
    clear h8
    subst hv
    have CD : Hid (∀ (k : Nat) (w' : World), Below w.heap.size w w' → Calls Tryz.prog 79 #[.slice a n cap, .int .i64 (k : Int)] w' fun e w'' => e = .returned (decV (dec (l.drop k))) ∧ Below w'.heap.size w' w'') := Lib.hid fun k w' hb => by
      have := decode_any _ l (k : Int) w' (h.below hb (Nat.le_refl _)) hl (marks_below hm hb hg)
      rw [decAt_in] at this; exact this
    have HN : Hid (n = l.length) := Lib.hid hn
    clear h hm hn hl
    go_enter Tryz.func74, Tryz.ntmps74
    go_wp2
    go_loopw [2] (fun x wr => ∃ (k : Nat) (pre : List Int), x = .int .i64 k ∧ k ≤ n ∧ Hid (At l pre k) ∧ Below w.heap.size w wr) (fun x _ => n - (intOf x).toNat)
    case atStart => exact ⟨0, [], rfl, Nat.zero_le _, Lib.hid (At.start l), Below.refl _ _⟩
    case round =>
      obtain ⟨k, pre, rfl, hk, HA, hB⟩ := hrel
      by_cases hlt : k < n
      · have C := CD.out k wr hB
        obtain ⟨r, m, e, hd⟩ : ∃ r m e, dec (l.drop k) = (r, m, e) := ⟨_, _, _, rfl⟩
        rw [hd] at C
        have C := Lib.hid C
        have hbd := dec_bd (l.drop k)
        rw [hd, List.length_drop, ← HN.out] at hbd
        obtain ⟨m1, m2, m3, m4⟩ := hbd
        simp only at m1 m2 m3 m4
        by_cases he : e = 0
        · subst he
          have HA' : Hid (At l (pre ++ [r]) (k + m)) := Lib.hid (HA.out.ok hd)
          have hm1 : 1 ≤ m := by obtain ⟨q1, q2, _⟩ := dec_ok hd; rw [q2]; exact wO_pos q1
          clear hd
          go_wp2_with (go_at_call 79; refine C.out.mono ?_; rintro e w1 ⟨rfl, hb1⟩; unfold decV; simp only)
          go_roundw
          case rel => exact ⟨k + m, pre ++ [r], by go_num, by omega, HA', hB.trans (hb1.mono hB.size)⟩
          case measure => simp [intOf]; omega
        · have HE : Hid (runs l = (pre, e) ∧ wid (runs l).1 = k) := Lib.hid (HA.out.err (by rw [← HN.out]; exact hlt) he (by rw [hd]))
          have hne : (e != 0) = true := by rw [bne_iff_ne]; exact he
          clear hd he
          go_wp2_with (go_at_call 79; refine C.out.mono ?_; rintro e w1 ⟨rfl, hb1⟩; unfold decV; simp only)
          go_ret2
          exact ⟨(congrArg Ending.returned (HV.out k e HE.out.2 (by rw [HE.out.1]))).symm, hB.trans (hb1.mono hB.size)⟩
      · have HE : Hid (runs l = (pre, 0) ∧ wid (runs l).1 = k) := Lib.hid (HA.out.stop (by rw [← HN.out]; omega))
        go_wp2
        go_ret2
        exact ⟨(congrArg Ending.returned (HV.out k 0 HE.out.2 (by rw [HE.out.1]))).symm, hB⟩
end Go.Proofs.YtdiinlmeoifgjaaGreatDoor

/- The iterator over the runes of a text: its contract. -/
namespace Go.Proofs.YtdiinlmeoifgjaaGreatDoor
open Go.RowKit Go.Shelf Go.PlainAid

attribute [local go_sem] Oper.semAt_some

/-- What the iterator yields: where a rune begins, and the rune. -/
def eachF : Nat → List Int → List (Nat × Int)
  | _, [] => []
  | k, r :: rs => (k, r) :: eachF (k + wO r) rs
def eachS (l : List UInt8) : List (Nat × Int) := eachF 0 (runs l).1
def encE (x : Nat × Int) : Array Value := #[.int .i64 (x.1 : Int), .int .i32 x.2]
theorem eachF_app : ∀ (a b : List Int) (k : Nat), eachF k (a ++ b) = eachF k a ++ eachF (k + wid a) b := by
  intro a
  induction a with
  | nil => intro b k; rfl
  | cons r a ih => intro b k; rw [List.cons_append, eachF, eachF, ih, wid_cons, List.cons_append, Nat.add_assoc]
theorem eachF_fst : ∀ (rs : List Int) (k : Nat), (eachF k rs).map (·.1) = begs k rs
  | [], _ => rfl
  | r :: rs, k => by rw [eachF, begs, List.map_cons, eachF_fst rs]
theorem eachF_snd : ∀ (rs : List Int) (k : Nat), (eachF k rs).map (·.2) = rs
  | [], _ => rfl
  | r :: rs, k => by rw [eachF, List.map_cons, eachF_snd rs]
theorem eachF_len (rs : List Int) (k : Nat) : (eachF k rs).length = rs.length := by rw [← List.length_map (f := (·.2)), eachF_snd]
theorem At.pre {L : List UInt8} {pre : List Int} {k n : Nat} {r : Int} (h : At L pre k) (hd : dec (L.drop k) = (r, n, 0)) :
    eachF 0 (pre ++ [r]) = eachF 0 pre ++ [(k, r)] ∧ eachF 0 (pre ++ [r]) <+: eachS L ∧ (eachF 0 pre).length < (eachS L).length := by
  have e : eachF 0 (pre ++ [r]) = eachF 0 pre ++ [(k, r)] := by rw [eachF_app, h.1, Nat.zero_add]; rfl
  have h2 := (h.ok hd).2.1
  have p : eachF 0 (pre ++ [r]) <+: eachS L := by unfold eachS; rw [h2]; exact ⟨_, (eachF_app _ _ _).symm⟩
  refine ⟨e, p, ?_⟩
  have := p.length_le
  rw [e, List.length_append] at this
  simp at this; omega

set_option maxHeartbeats 400000 in
theorem each_anyR (a : Option Addr) (n cap : Nat) (w : World) :
    Calls Tryz.prog 75 #[.slice a n cap] w fun e w' => e = .returned (.func (.func 80) #[] #[.pointer (some ⟨w.heap.size, 0, none⟩)]) ∧ w' = w.alloc (.cells #[.slice a n cap] 98) := by
  have hmf : ∀ (fn : Fn) (first cap : Array Value) (w : World), (Instr.makeFunc fn first cap).run Tryz.prog w = .ok (.func fn first cap) w := fun _ _ _ _ => rfl
  go_enter Tryz.func75, Tryz.ntmps75
  go_wp2
  go_ret
  exact ⟨rfl, rfl⟩
theorem grown_noneR {W W1 : World} (h : Below W.heap.size W W1) : W.grownBy W1 none :=
  ⟨h.os, h.tape, h.output, h.size, fun j hj _ => h.block j hj⟩

set_option maxRecDepth 100000 in
set_option maxHeartbeats 4000000 in
/-- The iterator's contract. -/
theorem each_seqR (n Bs : Nat) (P₀ : Nat → Prop) (v : Value) (L : List UInt8) (w : World) (hn : 1 ≤ n) (hL : L.length ≤ 1000000000) (hn₀ : ∀ k, P₀ k → k < w.heap.size) (hg : 1 < w.heap.size)
    (hv : ∀ W1 : World, w.heap.size ≤ W1.heap.size → (∀ k, P₀ k → W1.heap[k]? = w.heap[k]?) → W1.cell? ⟨Bs, 0, none⟩ = some v ∧ BytesAt W1 v L ∧ MarksTab W1) :
    SeqB n Tryz.prog 80 #[.pointer (some ⟨Bs, 0, none⟩)] encE P₀ 0 (fun ys => ys = eachS L) (fun pre => pre <+: eachS L) (eachS L).length w := by
  intro l J Jx W hW hJ hJx hY h0
  have hV : Hid (∀ W1 : World, W.heap.size ≤ W1.heap.size → (∀ k, P₀ k → W1.heap[k]? = W.heap[k]?) → W1.cell? ⟨Bs, 0, none⟩ = some v ∧ BytesAt W1 v L ∧ MarksTab W1) := Lib.hid fun W1 h1 h2 =>
    hv W1 (Nat.le_trans hW.size h1) (fun k hk => (h2 k hk).trans (hW.block k (hn₀ k hk)))
  obtain ⟨a, cap, hva⟩ := (hV.out W (Nat.le_refl _) (fun _ _ => rfl)).2.1.slice
  rw [List.length_map] at hva
  obtain ⟨m, hm⟩ : ∃ m, m = L.length := ⟨_, rfl⟩
  rw [← hm] at hva
  have hnW : ∀ k, P₀ k → k < W.heap.size := fun k hk => Nat.lt_of_lt_of_le (hn₀ k hk) hW.size
  have hgW : 1 < W.heap.size := Nat.lt_of_lt_of_le hg hW.size
  have hdone : Hid (∀ W2, J (eachS L) W2 → ∀ v : Value, (fun (e : Ending) (W' : World) => (∃ v, e = .returned v) ∧ ((∃ xs, (xs = eachS L) ∧ J xs W') ∨ (∃ pre, (pre <+: eachS L) ∧ Jx pre W'))) (.returned v) W2) := Lib.hid
    fun W2 h v => ⟨⟨_, rfl⟩, .inl ⟨_, rfl, h⟩⟩
  have hstop : Hid (∀ pre W2, pre <+: eachS L → Jx pre W2 → ∀ v : Value, (fun (e : Ending) (W' : World) => (∃ v, e = .returned v) ∧ ((∃ xs, (xs = eachS L) ∧ J xs W') ∨ (∃ pre, (pre <+: eachS L) ∧ Jx pre W'))) (.returned v) W2) := Lib.hid
    fun pre W2 hp h v => ⟨⟨_, rfl⟩, .inr ⟨_, hp, h⟩⟩
  refine callsIn_of_wp Tryz.func80 rfl trivial ?_ rfl
  generalize hR : (fun (e : Ending) (W' : World) => (∃ v, e = .returned v) ∧ ((∃ xs, (xs = eachS L) ∧ J xs W') ∨ (∃ pre, (pre <+: eachS L) ∧ Jx pre W'))) = R at hdone hstop ⊢
  clear hR
  have HY := Lib.hid hY
  have HJ := Lib.hid hJ
  have HM : Hid (m = L.length) := Lib.hid hm
  have hmb : m ≤ 1000000000 := by omega
  have HN := Lib.hid hnW
  have CD : Hid (∀ (k : Nat) (W1 : World), W.heap.size ≤ W1.heap.size → (∀ k, P₀ k → W1.heap[k]? = W.heap[k]?) → Calls Tryz.prog 79 #[v, .int .i64 (k : Int)] W1 fun e w'' => e = .returned (decV (dec (L.drop k))) ∧ Below W1.heap.size W1 w'') := Lib.hid fun k W1 h1 h2 => by
    obtain ⟨_, h4, h5⟩ := hV.out W1 h1 h2
    have := decode_any v L (k : Int) W1 h4 hL h5
    rw [decAt_in] at this; exact this
  subst hva
  clear hv hn₀ hY hJ hJx hm hnW
  simp only [Tryz.ntmps80, List.size_toArray, List.length_cons, List.length_nil, Nat.reduceAdd, Nat.reduceSub, Array.replicate_succ, Array.replicate_zero, List.push_toArray, List.append_toArray, List.nil_append, List.cons_append]
  gi_wp2
  gi_loopw [3] (fun x W1 => ∃ (k : Nat) (pre : List Int), x = .int .i64 k ∧ k ≤ m ∧ Hid (At L pre k) ∧ Hid (J (eachF 0 pre) W1) ∧ W.heap.size ≤ W1.heap.size ∧ Hid (∀ k, P₀ k → W1.heap[k]? = W.heap[k]?)) (fun x _ => m - (intOf x).toNat)
  case atStart => exact ⟨0, [], rfl, Nat.zero_le _, Lib.hid (At.start L), Lib.hid h0, Nat.le_refl _, Lib.hid fun _ _ => rfl⟩
  case round =>
    obtain ⟨k, pre, rfl, hk, HA, HJ1, hs1, HK⟩ := hrel
    have hc := (hV.out wr hs1 HK.out).1
    by_cases hlt : k < m
    · have C := CD.out k wr hs1 HK.out
      obtain ⟨r, d, e, hd⟩ : ∃ r d e, dec (L.drop k) = (r, d, e) := ⟨_, _, _, rfl⟩
      rw [hd] at C
      have hbd := dec_bd (L.drop k)
      rw [hd, List.length_drop, ← HM.out] at hbd
      obtain ⟨m1, m2, m3, m4⟩ := hbd
      simp only at m1 m2 m3 m4
      by_cases he : e = 0
      · subst he
        obtain ⟨p1, p2, p3⟩ := HA.out.pre hd
        have HA' : Hid (At L (pre ++ [r]) (k + d)) := Lib.hid (HA.out.ok hd)
        have hd1 : 1 ≤ d := by obtain ⟨q1, q2, _⟩ := dec_ok hd; rw [q2]; exact wO_pos q1
        have P1 := Lib.hid p1
        have P2 := Lib.hid p2
        have P3 := Lib.hid p3
        clear hd p1 p2 p3
        have C := Lib.hid C
        gi_wp2
        refine ⟨trivial, (callsIn_wide.2 C.out).mono ?_⟩
        rintro e w1 ⟨rfl, hb1⟩
        unfold decV
        simp only
        have HJ2 : Hid (J (eachF 0 pre) w1) := Lib.hid (HJ.out _ _ _ none HJ1.out (grown_noneR hb1) (fun r e => by cases e))
        have hs2 : W.heap.size ≤ w1.heap.size := Nat.le_trans hs1 hb1.size
        have HK2 : Hid (∀ k, P₀ k → w1.heap[k]? = W.heap[k]?) := Lib.hid fun j hj => (hb1.block j (Nat.lt_of_lt_of_le (HN.out j hj) hs1)).trans (HK.out j hj)
        obtain ⟨fn, tmps, assign, body, hy, hR⟩ := HY.out (eachF 0 pre) (k, r) w1 HJ2.out hs2 P3.out
        have hy' : (Instr.yield l #[.int .i64 (k : Int), .int .i32 r]).run Tryz.prog w1 = .ok (.round l fn tmps assign body) w1 := hy
        have HR := Lib.hid hR
        clear hy hR
        gi_wp2
        refine HR.out.mono ?_
        rintro e W3 (⟨rfl, hJ3, hk3⟩ | ⟨rfl, hJx3⟩)
        · rw [← P1.out] at hJ3
          have HJ3 := Lib.hid hJ3
          have HK3 : Hid (∀ k, P₀ k → W3.heap[k]? = W.heap[k]?) := Lib.hid fun j hj => (hk3.2 j (.inl hj)).trans (HK2.out j hj)
          have hs3 : W.heap.size ≤ W3.heap.size := Nat.le_trans hs2 hk3.1
          clear hJ3 hk3
          gi_wp2
          go_roundw
          case rel => exact ⟨k + d, pre ++ [r], by go_num, by omega, HA', HJ3, hs3, HK3⟩
          case measure => simp [intOf]; omega
        · have HJ3 := Lib.hid (hstop.out _ _ (by rw [← P1.out]; exact P2.out) hJx3)
          clear hJx3
          gi_wp2
          refine bodyPost_ret (results_none rfl _ _ _) rfl ?_
          exact HJ3.out _
      · have HE : Hid (runs L = (pre, e)) := Lib.hid (HA.out.err (by rw [← HM.out]; exact hlt) he (by rw [hd])).1
        have h6 : e = 6 ∨ e = 320 := by
          have hlk : k < L.length := by rw [← HM.out]; exact hlt
          have := dec_err L[k] (L.drop (k + 1))
          rw [← drop_cons hlk, hd] at this
          rcases this with h | h | h
          · exact absurd h he
          · exact .inl h
          · exact .inr h
        clear hd he
        rcases h6 with rfl | rfl
        all_goals
          have C := Lib.hid C
          gi_wp2
          refine ⟨trivial, (callsIn_wide.2 C.out).mono ?_⟩
          rintro e w1 ⟨rfl, hb1⟩
          unfold decV
          simp only
          have HJ2 : Hid (J (eachS L) w1) := Lib.hid (by
            have := HJ.out _ _ _ none HJ1.out (grown_noneR hb1) (fun r e => by cases e)
            unfold eachS; rw [HE.out]; exact this)
          gi_wp2
          refine ⟨(fun _ h => by cases h), ?_⟩
          gi_wp2
          refine bodyPost_ret (results_none rfl _ _ _) rfl ?_
          exact hdone.out _ HJ2.out _
    · have HE : Hid (runs L = (pre, 0)) := Lib.hid (HA.out.stop (by rw [← HM.out]; omega)).1
      have HJ2 : Hid (J (eachS L) wr) := Lib.hid (by unfold eachS; rw [HE.out]; exact HJ1.out)
      gi_wp2
      refine bodyPost_ret (results_none rfl _ _ _) rfl ?_
      exact hdone.out _ HJ2.out _
end Go.Proofs.YtdiinlmeoifgjaaGreatDoor

/- runes.Count. -/
namespace Go.Proofs.YtdiinlmeoifgjaaGreatDoor
open Go.RowKit Go.Shelf Go.PlainAid

attribute [local go_sem] Oper.semAt_some

theorem set_blockR {W : World} {b i : Nat} {c : Array Value} {t : TypeId} {fr : Nat × Nat} (v : Value) (h : W.heap[b]? = some (.cells c t fr)) :
    (W.setCell ⟨b, i, none⟩ v).heap[b]? = some (.cells (c.setIfInBounds i v) t fr) := by
  simp [World.setCell, Array.getElem?_modify, h]
theorem set_otherR {W : World} {b i k : Nat} (v : Value) (h : k ≠ b) : (W.setCell ⟨b, i, none⟩ v).heap[k]? = W.heap[k]? := Below.heap_setCell _ _ _ k h
theorem grown_setR (W : World) (b i : Nat) (v : Value) : W.grownBy (W.setCell ⟨b, i, none⟩ v) (some b) :=
  ⟨rfl, rfl, rfl, (KeepsWalks.setCell W _ v).size, fun k _ hk => Below.heap_setCell _ _ _ k (fun e => hk (by rw [e]))⟩
/-- Rows in worlds where their block is as it was. -/
theorem RowAt.keep {A : Nat} {w w' : World} {v : Value} {l : List Value} (h : RowAt w v l) (hA : w.heap.size ≤ A) (hs : w.heap.size ≤ w'.heap.size) (hk : ∀ k, k < A → k < w.heap.size → w'.heap[k]? = w.heap[k]?) : RowAt w' v l := by
  rcases h with h | ⟨g, off, n, cap, e, hn, hg, hc⟩
  · exact .inl h
  · refine .inr ⟨g, off, n, cap, e, hn, Nat.lt_of_lt_of_le hg hs, fun j u hj => ?_⟩
    have := hk g (by omega) hg
    rw [← hc j u hj]
    simp only [World.cell?, this]

/-- The iterator's contract where it is ranged over: all blocks below A are kept. -/
theorem each_at (n A Bs : Nat) (v : Value) (l : List UInt8) (w W0 : World) (hn : 1 ≤ n) (hl : l.length ≤ 1000000000) (h : BytesAt w v l) (hm : MarksTab w) (hg : 1 < A) (hA : w.heap.size = A)
    (hb : Below A w W0) (hz : Bs < W0.heap.size) (hBs : W0.heap[Bs]? = some (.cells #[v] 98 (0, 0))) :
    SeqB n Tryz.prog 80 #[.pointer (some ⟨Bs, 0, none⟩)] encE (fun k => k < A ∨ k = Bs) 0 (fun ys => ys = eachS l) (fun pre => pre <+: eachS l) (eachS l).length W0 := by
  subst hA
  have hs := hb.size
  refine each_seqR n Bs (fun k => k < w.heap.size ∨ k = Bs) v l W0 hn hl (fun k hk => by omega) (by omega) fun W1 h1 hk => ⟨?_, ?_, ?_⟩
  · have := (hk Bs (.inr rfl)).trans hBs
    simp [World.cell?, this]
  · exact h.keep (Nat.le_refl _) (by omega) fun k h2 _ => (hk k (.inl h2)).trans (hb.block k h2)
  · obtain ⟨t, fr, hm⟩ := hm
    exact ⟨t, fr, (hk _ (.inl hg)).trans ((hb.block _ hg).trans hm)⟩

/-- What Count, Runes and Starts return if Check says so. -/
def cntS (l : List UInt8) : Nat × Int := if (chkS l).2 = 0 then ((runs l).1.length, 0) else (0, (chkS l).2)
def cntV (l : List UInt8) : Value := .tuple #[.int .i64 ((cntS l).1 : Int), .int .i64 (cntS l).2]

def CI (A : Nat) (w : World) (pre : List (Nat × Int)) (W : World) : Prop :=
  W.heap[A]? = some (.cells #[.int .i64 (pre.length : Int)] 3 (0, 0)) ∧ Below A w W
theorem ci_bears (A : Nat) (w : World) : Bears (A + 2) (A + 2 + 2 + 0) (CI A w) := by
  intro pre W W' row h hg hr
  obtain ⟨h1, h2⟩ := h
  refine ⟨(hg.block A (Array.getElem?_eq_some_iff.1 h1).1 fun e => by have := hr _ e.symm; omega).trans h1, ?_⟩
  exact h2.grown hg (Nat.le_of_lt (Array.getElem?_eq_some_iff.1 h1).1) (fun k e => by have := hr _ e; omega)
def CAx (A : Nat) (w : World) (pre : List (Nat × Int)) (_ : Nat × Int) (a : Act) (W : World) : Prop :=
  CI A w pre W ∧ ∃ u0 u1 u2 u3 u4 u5 u7 u8 u9 u10 u11 u12 u13 u14 u15 u16 u17 u18 u19 u20 u21 : Value,
    a = { tmps := #[u0, u1, u2, u3, u4, u5, .pointer (some ⟨A, 0, none⟩), u7, u8, u9, u10, u11, u12, u13, u14, u15, u16, u17, u18, u19, u20, u21], defers := [] }
theorem cax_bears (A : Nat) (w : World) (pre : List (Nat × Int)) (x : Nat × Int) : Bears (A + 2) (A + 2 + 2 + 0) (CAx A w pre x) := by
  intro a W W' row h hg hr
  exact ⟨ci_bears A w pre W W' row h.1 hg hr, h.2⟩

end Go.Proofs.YtdiinlmeoifgjaaGreatDoor

/- runes.Runes. -/
namespace Go.Proofs.YtdiinlmeoifgjaaGreatDoor
open Go.RowKit Go.Shelf Go.PlainAid

attribute [local go_sem] Oper.semAt_some

theorem own_monoR {w : World} {B B' e z n : Nat} {v : Value} {xs : List Value} (h : w.ownsRow B e z v n xs) (hb : B' ≤ B) : w.ownsRow B' e z v n xs :=
  ⟨h.1, h.2.imp id fun ⟨g, cap, cur, h1, h2, h3⟩ => ⟨g, cap, cur, h1, Nat.le_trans hb h2, h3⟩⟩
theorem own_sliceR {w : World} {B e z n : Nat} {v : Value} {xs : List Value} (h : w.ownsRow B e z v n xs) : ∃ a m c, v = .slice a m c := by
  rcases h.2 with ⟨rfl, _⟩ | ⟨g, cap, cur, rfl, _⟩
  · exact ⟨_, _, _, rfl⟩
  · exact ⟨_, _, _, rfl⟩
theorem info_parts2R {P : Program} {t : TypeId} {z : Value} {n b : Nat} (h : (P.info? t).map (fun i => (i.zero, i.size, i.bytes)) = some (some z, n, b)) :
    ∃ i, P.info? t = some i ∧ i.zero = some z ∧ i.size = n ∧ i.bytes = b := by
  cases hi : P.info? t with
  | none => rw [hi] at h; cases h
  | some i =>
    rw [hi] at h
    simp only [Option.map_some, Option.some.injEq, Prod.mk.injEq] at h
    exact ⟨i, rfl, h.1, h.2.1, h.2.2⟩
def runesS (l : List UInt8) : List Int × Int := if (chkS l).2 = 0 then ((runs l).1, 0) else ([], (chkS l).2)
/-- runes.Runes -/
def RnV (l : List UInt8) (w : World) (e : Ending) (w' : World) : Prop :=
  ∃ v, e = .returned (.tuple #[v, .int .i64 (runesS l).2]) ∧ w'.ownsRow w.heap.size 21 1 v (runesS l).1.length ((runesS l).1.map (Value.int .i32)) ∧ Below w.heap.size w w'
theorem infoRn : (Tryz.prog.info? 21).map (fun i => (i.zero, i.size, i.bytes)) = some (some (.int .i32 0), 1, 4) := by kernel_rfl

set_option maxHeartbeats 1600000 in
theorem runes_no (v : Value) (l : List UInt8) (w : World) (h : BytesAt w v l) (hl : l.length ≤ 1000000000) (hm : MarksTab w) (hg : 1 < w.heap.size) (hc : (chkS l).2 ≠ 0) :
    Calls Tryz.prog 67 #[v] w (RnV l w) := by
  obtain ⟨x, e, hx, he⟩ : ∃ (x : Int) (e : Int), chkV l = .tuple #[.int .i64 x, .int .i64 e] ∧ e = (chkS l).2 := ⟨_, _, rfl, rfl⟩
  have C : Hid (Calls Tryz.prog 74 #[v] w fun e' w' => e' = .returned (.tuple #[.int .i64 x, .int .i64 e]) ∧ Below w.heap.size w w') := Lib.hid (by
    rw [← hx]; exact check_anyR v l w h hl hm hg)
  have HV : Hid (runesS l = ([], e)) := Lib.hid (by unfold runesS; rw [if_neg hc, he])
  have hne : (e != 0) = true := by rw [bne_iff_ne, he]; exact hc
  obtain ⟨a, cap, hv⟩ := h.slice
  rw [List.length_map] at hv
  subst hv
  clear h hm hc hx he
  go_enter Tryz.func67, Tryz.ntmps67
  go_wp2_with (go_at_call 74; refine C.out.mono ?_; rintro e w1 ⟨rfl, hb1⟩)
  go_ret2
  exact ⟨_, by rw [HV.out]; rfl, by rw [HV.out]; exact ⟨rfl, .inl ⟨rfl, rfl⟩⟩, hb1⟩

def RnI (A : Nat) (w : World) (pre : List (Nat × Int)) (W : World) : Prop :=
  ∃ v, W.heap[A]? = some (.cells #[v] 95 (0, 0)) ∧ W.ownsRow (A + 4) 21 1 v pre.length (pre.map fun x => Value.int .i32 x.2) ∧ Below A w W
theorem RnI_bears (A : Nat) (w : World) : Bears (A + 2) (A + 2 + 2 + 0) (RnI A w) := by
  intro pre W W' row h hg hr
  obtain ⟨v, h1, h3, h2⟩ := h
  refine ⟨v, (hg.block A (Array.getElem?_eq_some_iff.1 h1).1 fun e => by have := hr _ e.symm; omega).trans h1, h3.kept hg ?_, ?_⟩
  · cases hv : v.ownBlock with
    | none => exact .inl rfl
    | some r => exact .inr fun e => by have h4 := hr _ e.symm; have h5 := (h3.lt r hv).1; omega
  · exact h2.grown hg (Nat.le_of_lt (Array.getElem?_eq_some_iff.1 h1).1) (fun k e => by have := hr _ e; omega)
def RnAx (A : Nat) (w : World) (pre : List (Nat × Int)) (x : Nat × Int) (a : Act) (W : World) : Prop :=
  RnI A w pre W ∧ ∃ u0 u1 u2 u3 u4 u5 u7 u9 u10 u11 u12 u13 u14 u15 u16 u17 u18 u19 u20 u21 u22 u23 u24 u25 : Value, a = { tmps := #[u0, u1, u2, u3, u4, u5, .pointer (some ⟨A, 0, none⟩), u7, .int .i32 x.2, u9, u10, u11, u12, u13, u14, u15, u16, u17, u18, u19, u20, u21, u22, u23, u24, u25], defers := [] }
theorem RnAx_bears (A : Nat) (w : World) (pre : List (Nat × Int)) (x : Nat × Int) : Bears (A + 2) (A + 2 + 2 + 0) (RnAx A w pre x) := by
  intro a W W' row h hg hr
  exact ⟨RnI_bears A w pre W W' row h.1 hg hr, h.2⟩

set_option maxRecDepth 50000 in
set_option maxHeartbeats 1600000 in
theorem runes_yes (v : Value) (l : List UInt8) (w : World) (h : BytesAt w v l) (hl : l.length ≤ 1000000000) (hm : MarksTab w) (hg : 1 < w.heap.size) (hc : (chkS l).2 = 0) :
    CallsIn Fence.wide 5 Tryz.prog 67 #[v] w (RnV l w) := by
  obtain ⟨x, hx⟩ : ∃ (x : Int), chkV l = .tuple #[.int .i64 x, .int .i64 0] := ⟨(chkS l).1, by unfold chkV; rw [hc]⟩
  have C : Hid (Calls Tryz.prog 74 #[v] w fun e' w' => e' = .returned (.tuple #[.int .i64 x, .int .i64 0]) ∧ Below w.heap.size w w') := Lib.hid (by
    rw [← hx]; exact check_anyR v l w h hl hm hg)
  have HV : Hid (runesS l = ((runs l).1, 0)) := Lib.hid (by unfold runesS; rw [if_pos hc])
  obtain ⟨a, cap, hv⟩ := h.slice
  rw [List.length_map] at hv
  obtain ⟨n, hn⟩ : ∃ n, n = l.length := ⟨_, rfl⟩
  have hn9 : n ≤ 1000000000 := by omega
  have HN := Lib.hid hn
  rw [← hn] at hv
  subst hv
  have H := Lib.hid h
  have HM := Lib.hid hm
  have hrl := runs_len_le l
  have hel : (eachS l).length = (runs l).1.length := eachF_len _ _
  have hlen : (eachS l).length ≤ 1000000000 := by omega
  clear h hm hc hx hn hrl hel
  refine callsIn_of_wp_marks Tryz.func67 rfl trivial ?_ rfl
  simp only [Tryz.ntmps67, List.size_toArray, List.length_cons, List.length_nil, Nat.reduceAdd, Nat.reduceSub, Array.replicate_succ, Array.replicate_zero, List.push_toArray, List.append_toArray, List.nil_append, List.cons_append]
  gi_wp2
  refine ⟨trivial, (callsIn_wide.2 C.out).mono ?_⟩
  rintro e w1 ⟨rfl, hb1⟩
  gi_wp2
  refine ⟨trivial, (callsIn_wide.2 (each_anyR _ _ _ _)).mono ?_⟩
  rintro e w2 ⟨rfl, rfl⟩
  gi_wp2
  obtain ⟨W0, hW0⟩ : ∃ W0, W0 = ((w1.alloc (.cells #[.slice none 0 0] 95)).alloc (.cells #[.slice a n cap] 98)) := ⟨_, rfl⟩
  rw [← hW0]
  obtain ⟨A, hA⟩ : ∃ A, w1.heap.size = A := ⟨_, rfl⟩
  have hsz : W0.heap.size = A + 2 := by rw [hW0, ← hA]; simp
  have hbel : Below A w1 W0 := by
    rw [hW0, ← hA]
    exact ((Below.refl _ w1).alloc (Nat.le_refl _) _).alloc (by simp only [World.size_alloc]; omega) _
  have ha0 : W0.heap[A]? = some (.cells #[.slice none 0 0] 95 (0, 0)) := by
    rw [hW0, ← hA]; exact (Below.heap_alloc _ _ _ (by simp only [World.size_alloc]; omega)).trans (World.alloc_heap_new _ _)
  have ha1 : W0.heap[A + 1]? = some (.cells #[.slice a n cap] 98 (0, 0)) := by
    rw [hW0, ← hA]
    have := World.alloc_heap_new (w1.alloc (.cells #[.slice none 0 0] 95)) (.cells #[.slice a n cap] 98); rwa [World.size_alloc] at this
  clear hW0
  have hAw : w.heap.size ≤ A := by rw [← hA]; exact hb1.size
  rw [hA]
  have hseq := each_at (5 - 1) A (A + 1) (.slice a n cap) l w1 W0 (by omega) hl (H.out.below hb1 (Nat.le_refl _)) (marks_below HM.out hb1 hg) (by omega) hA hbel (by omega) ha1
  refine wpIn_rangeB (by omega) rfl (enters_of Tryz.func80 (by kernel_rfl) rfl) hseq (Below.refl _ _) (fun k hk => by rcases hk with hk | rfl <;> omega) (fun _ => rfl) (RnI A w1) (fun _ _ _ => False) (by rw [hsz]; exact RnI_bears A w1) (fun c => by intro _ _ _ _ h; exact h.elim) ?_ (RnAx A w1) (fun pre x => by rw [hsz]; exact RnAx_bears A w1 pre x) ?_ ?_ ?_ ?_
  · exact ⟨_, ha0, ⟨rfl, .inl ⟨rfl, rfl⟩⟩, hbel⟩
  · intro l pre x W K hI hW hK
    rw [hsz] at hW hK
    simp only [encE]
    gi_wp2
    exact hK _ _ (KeepsB.refl _ _ _ _) ⟨hI, _, _, _, _, _, _, _, _, _, _, _, _, _, _, _, _, _, _, _, _, _, _, _, _, rfl⟩
  · obtain ⟨i0, hi, hj0, hj1, hj2⟩ := info_parts2R infoRn
    intro l' pre x a' W hAx hW hlt
    rw [hsz] at hW
    obtain ⟨⟨v, r0, hown, r1⟩, u0, u1, u2, u3, u4, u5, u7, u9, u10, u11, u12, u13, u14, u15, u16, u17, u18, u19, u20, u21, u22, u23, u24, u25, rfl⟩ := hAx
    have hc0 : W.cell? ⟨A, 0, none⟩ = some v := by simp [World.cell?, r0]
    have hz0 : W.frozen? ⟨A, 0, none⟩ = false := by simp [World.frozen?, r0]
    have hb8 : pre.length < 1000000000 := by omega
    rw [hsz]
    obtain ⟨x1, x2⟩ := x
    simp only at hc0 ⊢
    have hkeep : ∀ {w2 : World}, (W.alloc (.cells #[.int .i32 x2] 21)).grownBy w2 v.ownBlock → ∀ k, k < A + 4 → w2.heap[k]? = W.heap[k]? := fun hg k hk =>
      (hg.block k (by rw [World.size_alloc]; omega) (fun e => by have := (hown.lt k e.symm).1; omega)).trans (Below.heap_alloc _ _ _ (by omega))
    have hsA := World.size_alloc W (.cells #[.int .i32 x2] 21)
    gi_wp2_with (gi_at_builtin; refine wpListIn_append_own _ rfl _ _ 95 rfl (A + 4) 21 i0 (.int .i32 0) 1 4 Tryz.underlying95 hi hj0 hj1 hj2 rfl (by decide) _ _ _ rfl (hown.alloc _) ⟨W.heap.size, 0, none⟩ 1 1 [.int .i32 x2] rfl rfl (new_cells W [.int .i32 x2] _) (by simp [Value.oneCell']) (by unfold maxLen; omega) (by omega) (by rw [hsA]; omega) ?_; intro v' w2 hown' hgrow _; obtain ⟨sa, sm, sc, rfl⟩ := own_sliceR hown'; have hkk := hkeep hgrow; have hv2 := (hkk A (by omega)).trans r0; have hc2' : w2.cell? ⟨A, 0, none⟩ = some v := (by simp [World.cell?, hv2]); have hz2' : w2.frozen? ⟨A, 0, none⟩ = false := (by simp [World.frozen?, hv2]))
    have hne : ∀ g, (Value.slice sa sm sc).ownBlock = some g → A + 4 ≤ g := fun g hg => (hown'.lt g hg).1
    refine ⟨⟨?_, fun k hk => ?_⟩, _, set_blockR _ hv2, ?_, ?_⟩
    · exact Nat.le_trans (Nat.le_trans (by rw [hsA]; omega) hgrow.size) (KeepsWalks.setCell _ _ _).size
    · have hk' : k ≠ A ∧ k < A + 4 := by rcases hk with (hk | hk) | hk <;> omega
      exact (set_otherR _ hk'.1).trans (hkk k hk'.2)
    · have hw3 : (w2.setCell ⟨A, 0, none⟩ (.slice sa sm sc)).ownsRow (A + 4) 21 1 (.slice sa sm sc) (pre.length + 1) ((pre.map fun x => Value.int .i32 x.2) ++ [.int .i32 x2]) :=
        hown'.kept (grown_setR _ _ _ _) (.inr fun e => by have := hne _ e; omega)
      rw [List.length_append, List.map_append]
      exact hw3
    · have hAW : A ≤ W.heap.size := by omega
      exact ((r1.alloc hAW _).grown hgrow (by rw [hsA]; omega) (fun k hk => by have := (hown.lt k hk).1; omega)).setCell (Nat.le_refl A) _
  · intro xs W hS hI hD
    rw [hsz] at hD
    subst hS
    obtain ⟨v, r0, hown, r1⟩ := hI
    have hc0 : W.cell? ⟨A, 0, none⟩ = some v := by simp [World.cell?, r0]
    rw [hsz]
    gi_wp2
    refine ⟨by simp, .inl ⟨_, _, rfl, run_takeDeferred hD, ?_⟩⟩
    refine ⟨.tuple #[v, .int .i64 0], by simp [results, Tryz.results67, go_sem], v, ?_, ?_, ?_⟩
    · rw [HV.out]
    · rw [HV.out]
      have hmp : (eachS l).map (fun x => Value.int .i32 x.2) = (runs l).1.map (Value.int .i32) := by
        have := eachF_snd (runs l).1 0
        unfold eachS
        conv => rhs; rw [← this]
        rw [List.map_map]; rfl
      have hel : (eachS l).length = (runs l).1.length := eachF_len _ _
      have hw := own_monoR (B' := w.heap.size) (hown.kept (grownBy_putObj' _ (A + 2) (.deferred none)) (by
        cases hv : v.ownBlock with
        | none => exact .inl rfl
        | some r => exact .inr fun e => by have := (hown.lt r hv).1; cases e; omega)) (by omega)
      rw [hmp, hel] at hw
      exact hw
    · exact hb1.trans ((r1.grown (grownBy_putObj' _ _ _) (Nat.le_of_lt (Array.getElem?_eq_some_iff.1 r0).1) (fun k e => by cases e; omega)).mono hAw)
  · intro c pre W _ h _; exact h.elim

theorem runes_any (v : Value) (l : List UInt8) (w : World) (h : BytesAt w v l) (hl : l.length ≤ 1000000000) (hm : MarksTab w) (hg : 1 < w.heap.size) :
    Calls Tryz.prog 67 #[v] w (RnV l w) := by
  by_cases hc : (chkS l).2 = 0
  · exact callsIn_wide.1 (runes_yes v l w h hl hm hg hc)
  · exact runes_no v l w h hl hm hg hc
end Go.Proofs.YtdiinlmeoifgjaaGreatDoor

/- Rows of bytes as strings. -/
namespace Go.Proofs.YtdiinlmeoifgjaaGreatDoor
open Go.RowKit Go.PlainAid
theorem info5 : (Tryz.prog.info? 5).map (fun i => (i.zero, i.size, i.bytes)) = some (some (.int .u8 0), 1, 1) := by kernel_rfl
theorem own_some {w : World} {B e n : Nat} {v : Value} {xs : List Value} (h : w.ownsRow B e 1 v n xs) (hn : 1 ≤ n) : ∃ g cap, v = .slice (some ⟨g, 0, none⟩) n cap ∧ B ≤ g ∧ g < w.heap.size ∧ ∀ j u, xs[j]? = some u → w.cell? ((⟨g, 0, none⟩ : Addr).add j) = some u := by
  have hr := RowAt.own h
  rcases h.2 with ⟨_, h0⟩ | ⟨g, cap, cur, rfl, hg, hb, _, _, _, ht⟩
  · omega
  · refine ⟨g, cap, rfl, hg, (Array.getElem?_eq_some_iff.1 hb).1, fun j u hj => ?_⟩
    have e : (⟨g, 0, none⟩ : Addr).add j = ⟨g, j, none⟩ := by cases j <;> simp [Addr.add]
    rw [e]
    rw [← ht] at hj
    have hj' : cur.toList[j]? = some u := by
      rw [List.getElem?_take] at hj
      split at hj
      · exact hj
      · cases hj
    simp only [World.cell?, hb, Option.isSome_none]
    simpa using hj'


/-- A source of an append: nil, or a row at an address. -/
def SrcAt (w : World) (v : Value) (m : Nat) (news : List Value) : Prop :=
  (v = .slice none 0 0 ∧ m = 0 ∧ news = []) ∨ ∃ ad c, v = .slice (some ad) m c ∧ ∀ j u, news[j]? = some u → w.cell? (ad.add j) = some u
/-- An argument: its value is written out. -/
def ArgAt (w : World) (v : Value) (cs : List Value) : Prop := ∃ a n c, v = .slice a n c ∧ n = cs.length ∧ n ≤ c ∧ SrcAt w (.slice a n c) n cs
theorem SrcAt.below {B : Nat} {w w' : World} {v : Value} {m : Nat} {news : List Value} (h : SrcAt w v m news) (hb : Below B w w') (hB : w.heap.size ≤ B) : SrcAt w' v m news := by
  rcases h with h | ⟨ad, c, e, hc⟩
  · exact .inl h
  · refine .inr ⟨ad, c, e, fun j u hj => ?_⟩
    have h1 := hc j u hj
    exact (hb.cell (Nat.lt_of_lt_of_le (World.block_lt_of_cell? w _ h1) hB)).trans h1
theorem SrcAt.row {w : World} {v : Value} {n : Nat} {cs : List Value} (h : SrcAt w v n cs) (hn : n = cs.length) : RowAt w v cs := by
  rcases h with ⟨rfl, rfl, rfl⟩ | ⟨ad, c, rfl, hc⟩
  · exact .inl ⟨_, _, rfl, rfl⟩
  · by_cases h0 : cs = []
    · subst h0; subst hn; exact .inl ⟨_, _, rfl, rfl⟩
    · obtain ⟨b, off, spot⟩ := ad
      have hl : 0 < cs.length := List.length_pos_iff.2 h0
      have hspot : spot = none := by
        have := hc 0 cs[0] (List.getElem?_eq_getElem hl)
        simpa [Addr.add] using World.cell?_spot this
      subst hspot
      have h00 := hc 0 cs[0] (List.getElem?_eq_getElem hl)
      have hlt := World.block_lt_of_cell? w _ h00
      refine .inr ⟨b, off, n, c, rfl, hn, ?_, fun j u hj => ?_⟩
      · rw [Go.WideShapes.add_plain] at hlt; exact hlt
      · have := hc j u hj
        rwa [Go.WideShapes.add_plain] at this
theorem SrcAt.own {w : World} {B : Nat} {e : TypeId} {v : Value} {n : Nat} {l : List Value} (h : w.ownsRow B e 1 v n l) : SrcAt w v n l := by
  by_cases hn : 1 ≤ n
  · obtain ⟨g, cap, rfl, _, _, hc⟩ := own_some h hn
    exact .inr ⟨_, cap, rfl, hc⟩
  · obtain rfl : n = 0 := by omega
    have hl : l = [] := List.eq_nil_of_length_eq_zero (by have := h.1; omega)
    subst hl
    rcases h.2 with ⟨rfl, _⟩ | ⟨g, cap, cur, rfl, _⟩
    · exact .inl ⟨rfl, rfl, rfl⟩
    · exact .inr ⟨_, cap, rfl, fun j u hj => by simp at hj⟩
theorem ArgAt.row {w : World} {v : Value} {cs : List Value} (h : ArgAt w v cs) : RowAt w v cs := by
  obtain ⟨a, n, c, rfl, hn, _, hs⟩ := h
  exact hs.row hn
theorem ArgAt.below {B : Nat} {w w' : World} {v : Value} {cs : List Value} (h : ArgAt w v cs) (hb : Below B w w') (hB : w.heap.size ≤ B) : ArgAt w' v cs := by
  obtain ⟨a, n, c, e, hn, hc, hs⟩ := h
  exact ⟨a, n, c, e, hn, hc, hs.below hb hB⟩
theorem wpList_append_any {P : Program} {w : World} {ops : Array Oper} {rest : List Oper} {o : Oper} {a : Act} {Q : Exit → Act → World → Prop} (hgd : o.guard = none) (s x : Operand) (t : TypeId)
    (ho : o.op = .call { callee := .builtin .append, args := #[s, x], argTypes := #[t, t] })
    (base : Nat) (e : TypeId) (i : TypeInfo) (z : Value) (bytes : Nat) (ht : P.underlying t = some (.slice e)) (hi : P.info? e = some i) (hz : i.zero = some z)
    (hsize : i.size = 1) (hby : i.bytes = bytes) (hzs : z.cells.size = 1)
    (v : Value) (n : Nat) (xs : List Value) (hs : a.eval s = v) (hown : w.ownsRow base e 1 v n xs)
    (vx : Value) (m : Nat) (news : List Value) (hx : a.eval x = vx) (hsrc : SrcAt w vx m news) (hl : news.length = m) (h1 : ∀ u ∈ news, u.oneCell' = true)
    (h63 : n + m ≤ maxLen) (hbytes : (n + m) * bytes ≤ 140737488355328) (hbase : base ≤ w.heap.size)
    (h : ∀ v' w', w'.ownsRow base e 1 v' (n + m) (xs ++ news) → w.grownBy w' v.ownBlock → wpList P ops Q rest (a.put o.dst v') w') : wpList P ops Q (o :: rest) a w := by
  rcases hsrc with ⟨rfl, rfl, rfl⟩ | ⟨ad, c, rfl, hc⟩
  · refine wpList_append_own_none hgd s x t ho base e i 1 ht hi v n xs hs hown hx ?_
    exact h v w (by simpa using hown) (World.grownBy.refl w _)
  · exact wpList_append_own w hgd s x t ho base e i z 1 bytes ht hi hz hsize hby hzs (by decide) v n xs hs hown ad m c news hx (by omega) hc h1 h63 hbytes hbase fun v' w' h2 h3 _ => h v' w' h2 h3

theorem one_all (k : IntKind) (l : List Int) : ∀ u ∈ l.map (Value.int k), u.oneCell' = true := by
  intro u hu; simp only [List.mem_map] at hu; obtain ⟨b, _, rfl⟩ := hu; rfl
theorem conv_src {w : World} {v : Value} {n : Nat} {l : List UInt8} (h : SrcAt w v n (l.map bc)) (hn : n = l.length) : (convert 98 9 v).run Tryz.prog w = .ok (.string (str l)) w := by
  have hr := h.row (by rw [List.length_map]; exact hn)
  rcases h with ⟨rfl, rfl, h⟩ | ⟨ad, c, rfl, hc⟩
  · obtain rfl : l = [] := by simpa using h
    exact run_convert_bytes_nil w 98 5 Tryz.underlying98 Tryz.underlying5 0 0 9 Tryz.underlying9
  · subst hn
    by_cases h0 : l = []
    · subst h0
      have hl : (loadCells ad 0).run Tryz.prog w = .ok (([] : List Int).map (Value.int .u8)).toArray w := run_loadCells_list (P := Tryz.prog) w ad [] (fun j v hj => by simp at hj)
      exact (run_convert_bytes_string w 98 9 5 _ _ c Tryz.underlying98 Tryz.underlying5 Tryz.underlying9).trans (run_bytesToString w ad 0 c [] hl)
    · rcases hr with ⟨_, _, _, hnil⟩ | ⟨g, off, nn, cc, he, hnn, _, hcell⟩
      · exact absurd (List.map_eq_nil_iff.1 hnil) h0
      · obtain ⟨h1, h2, _⟩ := Value.slice.inj he
        obtain rfl := Option.some.inj h1
        rw [run_convert_bytes_arg w 98 5 Tryz.underlying98 Tryz.underlying5 g off l.length c (l.map ub) (by simp) (fun i hi => ?_) 9 Tryz.underlying9]
        · congr 2
          unfold strOfNums str
          rw [List.map_map]
          congr 1
          have : ((fun n : Int => UInt8.ofNat n.toNat) ∘ ub) = id := by funext b; simp [ub]
          rw [this, List.map_id]
        · rw [hcell i (bc l[i]) (by simp [hi]), List.getD_eq_getElem?_getD, List.getElem?_eq_getElem (by simpa using hi)]
          simp [bc, ub]
end Go.Proofs.YtdiinlmeoifgjaaGreatDoor
