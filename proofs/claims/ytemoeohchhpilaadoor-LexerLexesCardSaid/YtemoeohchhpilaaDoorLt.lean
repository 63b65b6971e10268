/- Tokens as values; markToken. -/
import Derived.Test.YtemoeohchhpilaaDoorLw
import Derived.Laws.Rows
namespace Go.Proofs.YtemoeohchhpilaaDoor
open Go.RowKit Go.PlainAid

theorem conv_row {w : World} {v : Value} {l : List UInt8} (h : BytesAt w v l) : (convert 22 9 v).run Tryd.prog w = .ok (.string (str l)) w := by
  rcases h with ⟨a, cap, rfl, hnil⟩ | ⟨g, off, n, cap, rfl, hn, hg, hc⟩
  · obtain rfl : l = [] := List.map_eq_nil_iff.1 hnil
    cases a with
    | none => exact run_convert_bytes_nil w 22 5 Tryd.underlying22 Tryd.underlying5 0 cap 9 Tryd.underlying9
    | some ad =>
      have hl : (loadCells ad 0).run Tryd.prog w = .ok (([] : List Int).map (Value.int .u8)).toArray w := run_loadCells_list (P := Tryd.prog) w ad [] (fun j v hj => by simp at hj)
      exact (run_convert_bytes_string w 22 9 5 _ _ cap Tryd.underlying22 Tryd.underlying5 Tryd.underlying9).trans (run_bytesToString w ad 0 cap [] hl)
  · rw [List.length_map] at hn
    refine conv_src (n := n) (.inr ⟨⟨g, off, none⟩, cap, rfl, fun j u hj => ?_⟩) hn
    rw [Go.WideShapes.add_plain]; exact hc j u hj
theorem take_at {w : World} {a : Option Addr} {n c i : Nat} {l : List UInt8} (h : BytesAt w (.slice a n c) l) (hi : i ≤ n) : BytesAt w (.slice a i c) (l.take i) := by
  have hl : n = l.length := by
    obtain ⟨a', c', e⟩ := RowAt.slice h
    have := (Value.slice.inj e).2.1; rw [List.length_map] at this; exact this
  by_cases h0 : i = 0
  · subst h0; exact .inl ⟨_, _, rfl, rfl⟩
  · rcases h with ⟨a', c', e, hnil⟩ | ⟨g, off, n', cap, e, hn, hg, hc⟩
    · have := (Value.slice.inj e).2.1; omega
    · obtain ⟨rfl, rfl, rfl⟩ := Value.slice.inj e
      refine .inr ⟨g, off, i, _, rfl, by rw [List.length_map, List.length_take]; omega, hg, fun j u hj => ?_⟩
      rw [List.map_take, List.getElem?_take] at hj
      split at hj
      · exact hc j u hj
      · cases hj
theorem drop_at {w : World} {a : Option Addr} {n c i : Nat} {l : List UInt8} (h : BytesAt w (.slice a n c) l) (hi : i ≤ n) (hcap : n ≤ c) : BytesAt w (.slice (if c = i then a else a.map (·.add i)) (n - i) (c - i)) (l.drop i) := by
  have hl : n = l.length := by
    obtain ⟨a', c', e⟩ := RowAt.slice h
    have := (Value.slice.inj e).2.1; rw [List.length_map] at this; exact this
  by_cases h0 : i = n
  · subst h0; exact .inl ⟨_, _, by rw [Nat.sub_self], by rw [List.drop_of_length_le (by omega)]; rfl⟩
  · rcases h with ⟨a', c', e, hnil⟩ | ⟨g, off, n', cap, e, hn, hg, hc⟩
    · have := (Value.slice.inj e).2.1; omega
    · obtain ⟨rfl, rfl, rfl⟩ := Value.slice.inj e
      rw [if_neg (by omega), Option.map_some, Go.WideShapes.add_plain]
      refine .inr ⟨g, off + i, n - i, _, rfl, by rw [List.length_map, List.length_drop]; omega, hg, fun j u hj => ?_⟩
      rw [List.map_drop, List.getElem?_drop] at hj
      have := hc (i + j) u hj
      rw [← Nat.add_assoc] at this
      exact this
/-- A part of a text. -/
def seg (l : List UInt8) (i j : Nat) : List UInt8 := (l.drop i).take (j - i)
theorem seg_at {w : World} {a : Option Addr} {n c i j : Nat} {l : List UInt8} (h : BytesAt w (.slice a n c) l) (hij : i ≤ j) (hj : j ≤ n) (hcap : n ≤ c) : BytesAt w (.slice (if c = i then a else a.map (·.add i)) (j - i) (c - i)) (seg l i j) := by
  have := drop_at (take_at h hj) hij (Nat.le_trans hj hcap)
  rw [List.drop_take] at this; exact this
theorem conv_seg {w : World} {a : Option Addr} {n c i j : Nat} {l : List UInt8} (h : BytesAt w (.slice a n c) l) (hij : i ≤ j) (hj : j ≤ n) (hcap : n ≤ c) : (convert 22 9 (.slice (if c = i then a else a.map (·.add i)) (j - i) (c - i))).run Tryd.prog w = .ok (.string (str (seg l i j))) w :=
  conv_row (seg_at h hij hj hcap)
theorem below_b1 (w : World) (o : Obj) : Below w.heap.size w (w.alloc o) := (Below.refl _ w).alloc (Nat.le_refl _) o
theorem str_inj {a b : List UInt8} : (str a = str b) ↔ a = b := by
  constructor
  · intro h; have := congrArg (fun s : ByteArray => s.data.toList) h; exact this
  · rintro rfl; rfl

/-- A token in memory. -/
def tokC (x : Tok) : List Value := [.int .i64 x.1, .int .i64 x.2.1, .int .i64 x.2.2.1, .int .i64 x.2.2.2.1, .string (str x.2.2.2.2)]
def tokA (x : Tok) : Value := .agg (tokC x).toArray
/-- What markToken and wordToken return. -/
def tokV (t : Tb) (i j : Nat) : Value := .tuple #[tokA (t.1, (i : Int), (j : Int), t.2.1, t.2.2.1), .int .i64 t.2.2.2]
theorem results_boxT {fn : Func} {p t : Tmp} (h : fn.results = #[.cell p 33, .tmp t]) (tmps : Array Value) (W : World) (n : Nat) (x0 x1 x2 x3 x4 : Value) (tt : TypeId) (hp : tmps.getD p undef = .pointer (some ⟨n, 0, none⟩)) (b : W.heap[n]? = some (.cells #[x0, x1, x2, x3, x4] tt (0, 0))) :
    (results fn tmps).run Tryd.prog W = .ok (.tuple #[.agg #[x0, x1, x2, x3, x4], tmps.getD t undef]) W := by
  have c0 : W.cell? ⟨n, 0, none⟩ = some x0 := by simp [World.cell?, b]
  have c1 : W.cell? ⟨n, 1, none⟩ = some x1 := by simp [World.cell?, b]
  have c2 : W.cell? ⟨n, 2, none⟩ = some x2 := by simp [World.cell?, b]
  have c3 : W.cell? ⟨n, 3, none⟩ = some x3 := by simp [World.cell?, b]
  have c4 : W.cell? ⟨n, 4, none⟩ = some x4 := by simp [World.cell?, b]
  have hp' : tmps[p]?.getD undef = .pointer (some ⟨n, 0, none⟩) := by simpa using hp
  simp [results, h, hp', go_sem, c0, c1, c2, c3, c4]
theorem box5_facts {W : World} {n : Nat} {x0 x1 x2 x3 x4 : Value} {t : TypeId} (h : W.heap[n]? = some (.cells #[x0, x1, x2, x3, x4] t (0, 0))) :
    (W.cell? ⟨n, 0, none⟩ = some x0 ∧ W.cell? ⟨n, 1, none⟩ = some x1 ∧ W.cell? ⟨n, 2, none⟩ = some x2 ∧ W.cell? ⟨n, 3, none⟩ = some x3 ∧ W.cell? ⟨n, 4, none⟩ = some x4) ∧
    (W.frozen? ⟨n, 0, none⟩ = false ∧ W.frozen? ⟨n, 1, none⟩ = false ∧ W.frozen? ⟨n, 2, none⟩ = false ∧ W.frozen? ⟨n, 3, none⟩ = false ∧ W.frozen? ⟨n, 4, none⟩ = false) := by
  refine ⟨⟨?_, ?_, ?_, ?_, ?_⟩, ?_, ?_, ?_, ?_, ?_⟩ <;> simp [World.cell?, World.frozen?, h]
theorem set_five {W : World} {n : Nat} {x0 x1 x2 x3 x4 : Value} {t : TypeId} {fr : Nat × Nat} (y0 y1 y2 y3 y4 : Value) (h : W.heap[n]? = some (.cells #[x0, x1, x2, x3, x4] t fr)) :
    (((((W.setCell ⟨n, 0, none⟩ y0).setCell ⟨n, 1, none⟩ y1).setCell ⟨n, 2, none⟩ y2).setCell ⟨n, 3, none⟩ y3).setCell ⟨n, 4, none⟩ y4).heap[n]? = some (.cells #[y0, y1, y2, y3, y4] t fr) := by
  simp [World.setCell, Array.getElem?_modify, h]
theorem below_five {B : Nat} {w W : World} {n : Nat} (h : Below B w W) (hn : B ≤ n) (y0 y1 y2 y3 y4 : Value) :
    Below B w (((((W.setCell ⟨n, 0, none⟩ y0).setCell ⟨n, 1, none⟩ y1).setCell ⟨n, 2, none⟩ y2).setCell ⟨n, 3, none⟩ y3).setCell ⟨n, 4, none⟩ y4) :=
  ((((h.setCell hn _).setCell hn _).setCell hn _).setCell hn _).setCell hn _

/-- The table of marks in memory. -/
def lmCells : Array Value := (marksS.flatMap fun m => [Value.string (str m.1), Value.int .i64 m.2.1, Value.int .i64 m.2.2]).toArray
def MkTab (w : World) : Prop := ∃ t fr, w.heap[0]? = some (.cells lmCells t fr)
theorem mk_below {B : Nat} {w w' : World} (h : MkTab w) (hb : Below B w w') (hB : 0 < B) : MkTab w' := by
  obtain ⟨t, fr, h⟩ := h; exact ⟨t, fr, (hb.block _ hB).trans h⟩
def mk (k : Nat) : List UInt8 × Int × Int := marksS.getD k ([], 0, 0)
def mkA (m : List UInt8 × Int × Int) : Value := .agg #[.string (str m.1), .int .i64 m.2.1, .int .i64 m.2.2]
theorem mi0 (w : World) : (Instr.index 66 (.agg lmCells) (.int .i64 0)).run Tryd.prog w = .ok (mkA (mk 0)) w := by kernel_rfl
theorem mi1 (w : World) : (Instr.index 66 (.agg lmCells) (.int .i64 1)).run Tryd.prog w = .ok (mkA (mk 1)) w := by kernel_rfl
theorem mi2 (w : World) : (Instr.index 66 (.agg lmCells) (.int .i64 2)).run Tryd.prog w = .ok (mkA (mk 2)) w := by kernel_rfl
theorem mi3 (w : World) : (Instr.index 66 (.agg lmCells) (.int .i64 3)).run Tryd.prog w = .ok (mkA (mk 3)) w := by kernel_rfl
theorem mi4 (w : World) : (Instr.index 66 (.agg lmCells) (.int .i64 4)).run Tryd.prog w = .ok (mkA (mk 4)) w := by kernel_rfl
theorem mi5 (w : World) : (Instr.index 66 (.agg lmCells) (.int .i64 5)).run Tryd.prog w = .ok (mkA (mk 5)) w := by kernel_rfl
theorem mi6 (w : World) : (Instr.index 66 (.agg lmCells) (.int .i64 6)).run Tryd.prog w = .ok (mkA (mk 6)) w := by kernel_rfl
theorem mi7 (w : World) : (Instr.index 66 (.agg lmCells) (.int .i64 7)).run Tryd.prog w = .ok (mkA (mk 7)) w := by kernel_rfl
theorem mik (k : Nat) (hk : k < 8) (w : World) : (Instr.index 66 (.agg lmCells) (.int .i64 (k : Int))).run Tryd.prog w = .ok (mkA (mk k)) w := by
  match k, hk with
  | 0, _ => exact mi0 w
  | 1, _ => exact mi1 w
  | 2, _ => exact mi2 w
  | 3, _ => exact mi3 w
  | 4, _ => exact mi4 w
  | 5, _ => exact mi5 w
  | 6, _ => exact mi6 w
  | 7, _ => exact mi7 w
theorem mk_at {k : Nat} (hk : k < 8) : marksS.drop k = mk k :: marksS.drop (k + 1) := by
  match k, hk with
  | 0, _ => rfl
  | 1, _ => rfl
  | 2, _ => rfl
  | 3, _ => rfl
  | 4, _ => rfl
  | 5, _ => rfl
  | 6, _ => rfl
  | 7, _ => rfl
theorem box3_facts {W : World} {n : Nat} {x y z : Value} {t : TypeId} (h : W.heap[n]? = some (.cells #[x, y, z] t (0, 0))) :
    W.cell? ⟨n, 0, none⟩ = some x ∧ W.cell? ⟨n, 1, none⟩ = some y ∧ W.cell? ⟨n, 2, none⟩ = some z := by
  refine ⟨?_, ?_, ?_⟩ <;> simp [World.cell?, h]
theorem box2_facts {W : World} {n : Nat} {x y : Value} {t : TypeId} (h : W.heap[n]? = some (.cells #[x, y] t (0, 0))) :
    W.cell? ⟨n, 0, none⟩ = some x ∧ W.cell? ⟨n, 1, none⟩ = some y := by
  refine ⟨?_, ?_⟩ <;> simp [World.cell?, h]

theorem emp_str (s : List UInt8) : (str s).toList = s := by rw [ByteArray.toList_eq]; rfl
set_option maxRecDepth 50000 in
set_option maxHeartbeats 3200000 in
theorem markT_any (a : Option Addr) (n c : Nat) (l : List UInt8) (i j : Nat) (w : World) (hv : BytesAt w (.slice a n c) l) (hcap : n ≤ c) (hij : i ≤ j) (hj : j ≤ n) (M : MkTab w) (hg : 0 < w.heap.size) :
    Calls Tryd.prog 30 #[.slice a n c, .agg #[.int .i64 (i : Int), .int .i64 (j : Int)]] w fun e w' => e = .returned (tokV (mkT (seg l i j)) i j) ∧ Below w.heap.size w w' := by
  obtain ⟨W0, hW0⟩ : ∃ W0, W0 = (w.alloc (.cells #[.int .i64 (i : Int), .int .i64 (j : Int)] 27)).alloc (.cells #[.int .i64 0, .int .i64 0, .int .i64 0, .int .i64 0, .string ⟨#[]⟩] 33) := ⟨_, rfl⟩
  have hsz : W0.heap.size = w.heap.size + 2 := by rw [hW0]; simp
  have hB0 : Below w.heap.size w W0 := by rw [hW0]; exact (below_b1 _ _).alloc (by simp) _
  have b1 : W0.heap[w.heap.size]? = some (.cells #[.int .i64 (i : Int), .int .i64 (j : Int)] 27 (0, 0)) := by
    rw [hW0]; exact (Below.heap_alloc _ _ _ (by simp only [World.size_alloc]; omega)).trans (World.alloc_heap_new _ _)
  have b2 : W0.heap[w.heap.size + 1]? = some (.cells #[.int .i64 0, .int .i64 0, .int .i64 0, .int .i64 0, .string ⟨#[]⟩] 33 (0, 0)) := by
    rw [hW0]; have := World.alloc_heap_new (w.alloc (.cells #[.int .i64 (i : Int), .int .i64 (j : Int)] 27)) (.cells #[.int .i64 0, .int .i64 0, .int .i64 0, .int .i64 0, .string ⟨#[]⟩] 33); rwa [World.size_alloc] at this
  obtain ⟨x, hx⟩ : ∃ x, seg l i j = x := ⟨_, rfl⟩
  have hcv := conv_seg (RowAt.below hv hB0 (Nat.le_refl _)) hij hj hcap
  have HMt := Lib.hid (fun W (hW : Below w.heap.size w W) => mk_below M hW hg)
  have HMI : Hid (∀ k : Nat, k < 8 → ∀ w : World, (Instr.index 66 (.agg lmCells) (.int .i64 (k : Int))).run Tryd.prog w = .ok (mkA (mk k)) w) := Lib.hid mik
  rw [hx] at hcv ⊢
  have HF : Hid (mkT x = mkGo (marksS.drop 0) x) := Lib.hid rfl
  rw [hW0] at hcv
  obtain ⟨tt, fr, htab⟩ := HMt.out W0 hB0
  have hA1 : (0 : Int) ≤ (i : Int) := Int.natCast_nonneg _
  have hA2 : (i : Int) ≤ (j : Int) := by omega
  have hA3 : (j : Int) ≤ (c : Int) := by omega
  have HB1 := Lib.hid b1
  have HB2 := Lib.hid b2
  have HB0 := Lib.hid hB0
  have HZ := Lib.hid hsz
  clear hv M hg hx b1 b2 hij hj hsz hcap hB0
  by_cases hci : c = i
  all_goals
    first
      | (rw [if_pos hci] at hcv; subst hci; rw [Nat.sub_self] at hcv)
      | rw [if_neg hci] at hcv
    go_enter Tryd.func30, Tryd.ntmps30
    go_wp2_with (rw [← hW0]; refine wpList_load_row rfl 66 _ rfl 0 rfl tt _ fr _ htab Tryd.underlying66 rfl (by kernel_rfl) ?_)
    rw [← hW0]
    clear hcv hW0 htab hA1 hA2 hA3
    -- MARK1
    go_loopw [17] (fun x17 wr => ∃ k : Nat, x17 = .int .i64 (k : Int) ∧ k ≤ 8 ∧ Hid (mkT x = mkGo (marksS.drop k) x) ∧ Below W0.heap.size W0 wr) (fun x17 _ => 8 - (intOf x17).toNat)
    case atStart => exact ⟨0, rfl, by omega, HF, Below.refl _ _⟩
    case round =>
      obtain ⟨k, rfl, hk, HK, hb⟩ := hrel
      have d1 := (hb.block w.heap.size (by rw [HZ.out]; omega)).trans HB1.out
      have d2 := (hb.block (w.heap.size + 1) (by rw [HZ.out]; omega)).trans HB2.out
      have hs := hb.size
      rw [HZ.out] at hs
      by_cases hlt : k < 8
      · have hmi := HMI.out k hlt
        obtain ⟨⟨mt, mkk, mn⟩, hm⟩ : ∃ m, mk k = m := ⟨_, rfl⟩
        rw [hm] at hmi
        unfold mkA at hmi
        simp only at hmi
        have hst := HK.out
        rw [mk_at hlt, hm, mkGo] at hst
        simp only at hst
        have hd1 : decide ((k : Int) < 8) = true := decide_eq_true (by omega)
        obtain ⟨W1, hW1⟩ : ∃ W1, W1 = wr.alloc (.cells #[.string (str mt), .int .i64 mkk, .int .i64 mn] 65) := ⟨_, rfl⟩
        have hz1 : W1.heap.size = wr.heap.size + 1 := by rw [hW1]; simp
        have hb1 : Below W0.heap.size W0 W1 := by rw [hW1]; exact hb.alloc hb.size _
        have e1 := (below_b1 wr (.cells #[.string (str mt), .int .i64 mkk, .int .i64 mn] 65))
        rw [← hW1] at e1
        have d1' := (e1.block w.heap.size (by omega)).trans d1
        have d2' := (e1.block (w.heap.size + 1) (by omega)).trans d2
        have d3' : W1.heap[wr.heap.size]? = some (.cells #[.string (str mt), .int .i64 mkk, .int .i64 mn] 65 (0, 0)) := by rw [hW1]; exact World.alloc_heap_new _ _
        obtain ⟨f0, f1, f2⟩ := box3_facts d3'
        obtain ⟨s0, s1⟩ := box2_facts d1'
        obtain ⟨⟨t0, t1, t2, t3, t4⟩, u0, u1, u2, u3, u4⟩ := box5_facts d2'
        have HD2 := Lib.hid d2'
        have HBW1 := Lib.hid (HB0.out.trans (hb1.mono (by rw [HZ.out]; omega)))
        have HB11 := Lib.hid hb1
        subst hW1
        by_cases hmx : mt = x
        · have HV : Hid (mkT x = (mkk, mn, [], 0)) := Lib.hid (by rw [hst, if_pos hmx])
          subst hmx
          clear hst hm d1 d2 d1' d2' d3' e1 hb hb1 HF HK
          go_wp2_with fail
          -- MARK2
          (try simp only [Exit.inBlock, Exit.then])
          refine bodyPost_ret (results_boxT rfl _ _ (w.heap.size + 1) _ _ _ _ _ _ rfl (set_five _ _ _ _ _ HD2.out)) rfl ?_
          exact ⟨by rw [HV.out]; rfl, below_five HBW1.out (by omega) _ _ _ _ _⟩
        · have HV : Hid (mkT x = mkGo (marksS.drop (k + 1)) x) := Lib.hid (by rw [hst, if_neg hmx])
          have heq : ((str mt).toList == (str x).toList) = false := beq_eq_false_iff_ne.2 (fun e => hmx (by rw [emp_str, emp_str] at e; exact e))
          clear hst hm d1 d2 d1' d2' d3' e1 hb hb1 HF HK hmx
          go_wp2_with fail
          -- MARK3
          exact ⟨⟨k + 1, by go_num, by omega, HV, HB11.out⟩, by simp [intOf]; omega⟩
      · obtain rfl : k = 8 := by omega
        have HV : Hid (mkT x = (0, 0, [], 6)) := Lib.hid (HK.out)
        obtain ⟨s0, s1⟩ := box2_facts d1
        obtain ⟨⟨t0, t1, t2, t3, t4⟩, u0, u1, u2, u3, u4⟩ := box5_facts d2
        have HD2 := Lib.hid d2
        have HBW1 := Lib.hid (HB0.out.trans (hb.mono (by rw [HZ.out]; omega)))
        clear HF HK d1 d2 hb
        go_wp2_with fail
        -- MARK4
        (try simp only [Exit.inBlock, Exit.then])
        refine bodyPost_ret (results_boxT rfl _ _ (w.heap.size + 1) _ _ _ _ _ _ rfl (set_five _ _ _ _ _ HD2.out)) rfl ?_
        exact ⟨by rw [HV.out]; rfl, below_five HBW1.out (by omega) _ _ _ _ _⟩
end Go.Proofs.YtemoeohchhpilaaDoor
