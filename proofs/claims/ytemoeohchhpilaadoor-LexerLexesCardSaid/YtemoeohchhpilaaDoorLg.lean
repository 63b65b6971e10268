/- Lists of tokens in memory; Lex and Next. -/
import Derived.Test.YtemoeohchhpilaaDoorLf
import Derived.Deep.AppendLies
namespace Go.Proofs.YtemoeohchhpilaaDoor
open Go.RowKit Go.PlainAid

theorem own_form {w : World} {B n z : Nat} {e : TypeId} {v : Value} {xs : List Value} (h : w.ownsRow B e z v n xs) : (v = .slice none 0 0 ∧ n = 0) ∨ ∃ g c, v = .slice (some ⟨g, 0, none⟩) n c ∧ B ≤ g ∧ g < w.heap.size := by
  rcases h.2 with h | ⟨g, cap, cur, hv, hb, hg, _⟩
  · exact .inl h
  · exact .inr ⟨g, cap, hv, hb, (Array.getElem?_eq_some_iff.1 hg).1⟩
theorem own_cap {w : World} {B n z : Nat} {e : TypeId} {a : Option Addr} {c : Nat} {xs : List Value} (h : w.ownsRow B e z (.slice a n c) n xs) : n ≤ c ∧ c ≤ maxLen := by
  rcases h.2 with ⟨hv, hn⟩ | ⟨g, cap, cur, hv, hb, hg, h1, h2, _⟩
  · obtain ⟨_, rfl, rfl⟩ := Value.slice.inj hv; exact ⟨Nat.le_refl _, Nat.zero_le _⟩
  · obtain ⟨_, _, rfl⟩ := Value.slice.inj hv; exact ⟨h1, h2⟩
theorem own_len {w : World} {B n z : Nat} {e : TypeId} {v : Value} {xs : List Value} (h : w.ownsRow B e z v n xs) : ∃ a c, v = .slice a n c := by
  rcases own_form h with ⟨rfl, rfl⟩ | ⟨g, c, rfl, _⟩
  · exact ⟨_, _, rfl⟩
  · exact ⟨_, _, rfl⟩
/-- The cells of tokens. -/
def tcs (l : List Tok) : List Value := l.flatMap tokC
theorem tcs_nil : tcs [] = [] := rfl
theorem tcs_cons (x : Tok) (l : List Tok) : tcs (x :: l) = .int .i64 x.1 :: .int .i64 x.2.1 :: .int .i64 x.2.2.1 :: .int .i64 x.2.2.2.1 :: .string (str x.2.2.2.2) :: tcs l := rfl
theorem tcs_app (a b : List Tok) : tcs (a ++ b) = tcs a ++ tcs b := List.flatMap_append
theorem tcs_one (x : Tok) : tcs [x] = tokC x := by unfold tcs; simp
theorem tcs_len (l : List Tok) : (tcs l).length = l.length * 5 := by
  induction l with
  | nil => rfl
  | cons x l ih => rw [tcs_cons]; simp only [List.length_cons, ih]; omega
theorem tcs_at (l : List Tok) : ∀ {k : Nat} {x : Tok}, l[k]? = some x → (tcs l)[k * 5]? = some (.int .i64 x.1) ∧ (tcs l)[k * 5 + 1]? = some (.int .i64 x.2.1) ∧ (tcs l)[k * 5 + 2]? = some (.int .i64 x.2.2.1) ∧ (tcs l)[k * 5 + 3]? = some (.int .i64 x.2.2.2.1) ∧ (tcs l)[k * 5 + 4]? = some (.string (str x.2.2.2.2)) := by
  induction l with
  | nil => intro k x h; simp at h
  | cons y l ih =>
    intro k x h
    rw [tcs_cons]
    cases k with
    | zero => simp at h; subst h; simp
    | succ k =>
      have := ih (k := k) (x := x) (by simpa using h)
      rw [show (k + 1) * 5 = k * 5 + 1 + 1 + 1 + 1 + 1 by omega]
      simpa using this
theorem one_tokC (x : Tok) : ∀ u ∈ tokC x, u.oneCell' = true := by
  intro u hx
  simp only [tokC, List.mem_cons, List.not_mem_nil, or_false] at hx
  rcases hx with rfl | rfl | rfl | rfl | rfl <;> rfl
/-- The slice value v holds the tokens l. -/
def TksAt (w : World) (v : Value) (l : List Tok) : Prop :=
  (∃ a c, v = .slice a 0 c ∧ l = []) ∨ ∃ g off cap, v = .slice (some ⟨g, off, none⟩) l.length cap ∧ g < w.heap.size ∧ ∀ j u, (tcs l)[j]? = some u → w.cell? ⟨g, off + j, none⟩ = some u
theorem TksAt.below {B : Nat} {w w' : World} {v : Value} {l : List Tok} (h : TksAt w v l) (hb : Below B w w') (hB : w.heap.size ≤ B) : TksAt w' v l := by
  rcases h with h | ⟨g, off, cap, e, hg, hc⟩
  · exact .inl h
  · exact .inr ⟨g, off, cap, e, Nat.lt_of_lt_of_le hg hb.size, fun j u hj => (hb.cell (p := ⟨g, off + j, none⟩) (by show g < B; omega)).trans (hc j u hj)⟩
theorem TksAt.slice {w : World} {v : Value} {l : List Tok} (h : TksAt w v l) : ∃ a c, v = .slice a l.length c := by
  rcases h with ⟨a, c, e, rfl⟩ | ⟨g, off, c, e, _⟩
  · exact ⟨_, _, e⟩
  · exact ⟨_, _, e⟩
theorem TksAt.some {w : World} {v : Value} {l : List Tok} (h : TksAt w v l) (hl : l ≠ []) : ∃ g off cap, v = .slice (some ⟨g, off, none⟩) l.length cap ∧ g < w.heap.size ∧ ∀ j u, (tcs l)[j]? = some u → w.cell? ⟨g, off + j, none⟩ = some u := by
  rcases h with ⟨a, c, e, rfl⟩ | h
  · exact absurd rfl hl
  · exact h
theorem tks_own {w : World} {B n : Nat} {v : Value} {l : List Tok} (h : w.ownsRow B 33 5 v n (tcs l)) (hn : l.length = n) : TksAt w v l := by
  rcases own_form h with ⟨rfl, h0⟩ | ⟨g, c, rfl, h1, h2⟩
  · exact .inl ⟨_, _, rfl, List.length_eq_zero_iff.1 (by omega)⟩
  · refine .inr ⟨g, 0, c, by rw [hn], h2, fun j u hj => ?_⟩
    have := h.cells (g := g) rfl j u hj
    rw [Go.WideShapes.add_plain] at this; exact this
def zeroTk : Value := .agg #[.int .i64 0, .int .i64 0, .int .i64 0, .int .i64 0, .string ⟨#[]⟩]
theorem infoTk : (Tryd.prog.info? 33).map (fun i => (i.zero, i.size, i.bytes)) = some (some zeroTk, 5, 48) := by kernel_rfl
theorem results_box33 {fn : Func} {p t u : Tmp} (h : fn.results = #[.tmp t, .cell p 27, .tmp u]) (tmps : Array Value) (W : World) (n : Nat) (x y : Value) (tt : TypeId) (hp : tmps.getD p undef = .pointer (some ⟨n, 0, none⟩)) (b : W.heap[n]? = some (.cells #[x, y] tt (0, 0))) :
    (results fn tmps).run Tryd.prog W = .ok (.tuple #[tmps.getD t undef, .agg #[x, y], tmps.getD u undef]) W := by
  have c0 : W.cell? ⟨n, 0, none⟩ = some x := by simp [World.cell?, b]
  have c1 : W.cell? ⟨n, 1, none⟩ = some y := by simp [World.cell?, b]
  have hp' : tmps[p]?.getD undef = .pointer (some ⟨n, 0, none⟩) := by simpa using hp
  simp [results, h, hp', go_sem, c0, c1]
theorem set_both {W : World} {n : Nat} {x y : Value} {t : TypeId} {fr : Nat × Nat} (x' y' : Value) (h : W.heap[n]? = some (.cells #[x, y] t fr)) : ((W.setCell ⟨n, 0, none⟩ x').setCell ⟨n, 1, none⟩ y').heap[n]? = some (.cells #[x', y'] t fr) := by
  simp [World.setCell, Array.getElem?_modify, h]
theorem below_two {B : Nat} {w W : World} {n i j : Nat} {x y : Value} (h : Below B w W) (hn : B ≤ n) : Below B w ((W.setCell ⟨n, i, none⟩ x).setCell ⟨n, j, none⟩ y) := (h.setCell hn _).setCell hn _
theorem box2_all {W : World} {n : Nat} {x y : Value} {t : TypeId} (h : W.heap[n]? = some (.cells #[x, y] t (0, 0))) :
    W.cell? ⟨n, 0, none⟩ = some x ∧ W.cell? ⟨n, 1, none⟩ = some y ∧ W.frozen? ⟨n, 0, none⟩ = false ∧ W.frozen? ⟨n, 1, none⟩ = false := by
  refine ⟨?_, ?_, ?_, ?_⟩ <;> simp [World.cell?, World.frozen?, h]

/-- What Lex has found up to a place. -/
def LexAt (l : List UInt8) (m : Nat) (pre : List Tok) : Prop := lexO 0 l = if (lexO m (l.drop m)).2.2 = 0 then (pre ++ (lexO m (l.drop m)).1, (0, 0), 0) else lexO m (l.drop m)
theorem lexO_e (off : Nat) (L : List UInt8) : (lexO off L).2.2 = 0 → lexO off L = ((lexO off L).1, (0, 0), 0) := by
  suffices H : ∀ (f off : Nat) (L : List UInt8), L.length ≤ f → (lexO off L).2.2 = 0 → lexO off L = ((lexO off L).1, (0, 0), 0) from H _ off L (Nat.le_refl _)
  intro f
  induction f with
  | zero =>
    intro off L h _
    obtain rfl : L = [] := List.eq_nil_of_length_eq_zero (by omega)
    rw [lexO_none (by rw [firstS_nil])]
  | succ f ih =>
    intro off L h h0
    by_cases h4 : (firstS off L).2 = 4
    · rw [lexO_none h4]
    · by_cases h1 : (firstS off L).2 = 0
      · have hs := stepN_le (fun h => h4 (firstS_none.2 h))
        have hr := lexO_ok h1
        by_cases h2 : (lexO (off + (spN L + tokN (L.drop (spN L)))) (L.drop (spN L + tokN (L.drop (spN L))))).2.2 = 0
        · rw [if_pos h2] at hr; rw [hr]
        · rw [if_neg h2] at hr; rw [hr] at h0; exact absurd h0 h2
      · rw [lexO_bad h4 h1] at h0; exact absurd h0 h1
theorem lexAt_start (l : List UInt8) : LexAt l 0 [] := by
  unfold LexAt
  rw [List.drop_zero, List.nil_append]
  split
  · rename_i h; exact lexO_e 0 l h
  · rfl
theorem lexAt_end {l : List UInt8} {m : Nat} {pre : List Tok} (h : LexAt l m pre) (h4 : (firstS m (l.drop m)).2 = 4) : lexO 0 l = (pre, (0, 0), 0) := by
  unfold LexAt at h; rw [lexO_none h4, if_pos rfl, List.append_nil] at h; exact h
theorem lexAt_bad {l : List UInt8} {m : Nat} {pre : List Tok} (h : LexAt l m pre) (h4 : (firstS m (l.drop m)).2 ≠ 4) (h0 : (firstS m (l.drop m)).2 ≠ 0) : lexO 0 l = ([], ((firstS m (l.drop m)).1.2.1, (firstS m (l.drop m)).1.2.2.1), (firstS m (l.drop m)).2) := by
  unfold LexAt at h; rw [lexO_bad h4 h0, if_neg h0] at h; exact h
theorem lexAt_step {l : List UInt8} {m : Nat} {pre : List Tok} (h : LexAt l m pre) (h0 : (firstS m (l.drop m)).2 = 0) :
    ∃ q, m < q ∧ q ≤ l.length ∧ (firstS m (l.drop m)).1.2.2.1 = (q : Int) ∧ LexAt l q (pre ++ [(firstS m (l.drop m)).1]) := by
  have h4 : (firstS m (l.drop m)).2 ≠ 4 := by omega
  have hs := stepN_le (fun h => h4 (firstS_none.2 h))
  refine ⟨m + (spN (l.drop m) + tokN ((l.drop m).drop (spN (l.drop m)))), by omega, ?_, ?_, ?_⟩
  · have := hs.1; rw [List.length_drop] at this; omega
  · rw [firstS_pos (fun h => h4 (firstS_none.2 h))]
  · unfold LexAt at *
    have e : (l.drop m).drop (spN (l.drop m) + tokN ((l.drop m).drop (spN (l.drop m)))) = l.drop (m + (spN (l.drop m) + tokN ((l.drop m).drop (spN (l.drop m))))) := List.drop_drop
    rw [h, lexO_ok h0, e]
    by_cases h2 : (lexO (m + (spN (l.drop m) + tokN ((l.drop m).drop (spN (l.drop m))))) (l.drop (m + (spN (l.drop m) + tokN ((l.drop m).drop (spN (l.drop m))))))).2.2 = 0
    · rw [if_pos h2, if_pos rfl, if_pos h2, List.append_assoc]; rfl
    · rw [if_neg h2, if_neg h2, if_neg h2]
/-- What Lex returns. -/
def LexV (l : List UInt8) (w : World) (e : Ending) (w' : World) : Prop := ∃ v, e = .returned (.tuple #[v, .agg #[.int .i64 (lexS l).2.1.1, .int .i64 (lexS l).2.1.2], .int .i64 (lexS l).2.2]) ∧ w'.ownsRow w.heap.size 33 5 v (lexS l).1.length (tcs (lexS l).1) ∧ Below w.heap.size w w'
theorem own_nil (w : World) (e : TypeId) (z B : Nat) : w.ownsRow B e z (.slice none 0 0) 0 [] := ⟨by simp, .inl ⟨rfl, rfl⟩⟩
theorem lexV_of {l : List UInt8} {w w' : World} {r : List Tok × (Int × Int) × Int} {v : Value} (h : lexS l = r) (ho : w'.ownsRow w.heap.size 33 5 v r.1.length (tcs r.1)) (hb : Below w.heap.size w w') :
    LexV l w (.returned (.tuple #[v, .agg #[.int .i64 r.2.1.1, .int .i64 r.2.1.2], .int .i64 r.2.2])) w' := by
  subst h; exact ⟨v, rfl, ho, hb⟩

theorem new_cellsT (w : World) (l : List Value) (t : TypeId) (n : Nat) (hn : w.heap.size = n) : ∀ j u, l[j]? = some u → (w.alloc (.cells l.toArray t)).cell? ((⟨n, 0, none⟩ : Addr).add j) = some u := by
  subst hn; exact new_cells w l t
theorem own_lower {w : World} {B B' n z : Nat} {e : TypeId} {v : Value} {xs : List Value} (h : w.ownsRow B e z v n xs) (hb : B' ≤ B) : w.ownsRow B' e z v n xs := by
  obtain ⟨h1, h2⟩ := h
  refine ⟨h1, ?_⟩
  rcases h2 with h2 | ⟨g, cap, cur, e1, hg, r⟩
  · exact .inl h2
  · exact .inr ⟨g, cap, cur, e1, by omega, r⟩
theorem setCell_other {W : World} {n k : Nat} {i : Nat} {x : Value} (h : k ≠ n) : (W.setCell ⟨n, i, none⟩ x).heap[k]? = W.heap[k]? := by
  unfold World.setCell
  simp [Array.getElem?_modify, Ne.symm h]
theorem own_set {w : World} {B n z k i : Nat} {e : TypeId} {v x : Value} {xs : List Value} (h : w.ownsRow B e z v n xs) (hk : k < B) : (w.setCell ⟨k, i, none⟩ x).ownsRow B e z v n xs := by
  obtain ⟨h1, h2⟩ := h
  refine ⟨h1, ?_⟩
  rcases h2 with h2 | ⟨g, cap, cur, e1, hg, hc, r⟩
  · exact .inl h2
  · exact .inr ⟨g, cap, cur, e1, hg, (setCell_other (by omega)).trans hc, r⟩
theorem own_two {w : World} {B n z k : Nat} {e : TypeId} {v : Value} {xs : List Value} (h : w.ownsRow B e z v n xs) (hk : k < B) (x y : Value) : ((w.setCell ⟨k, 0, none⟩ x).setCell ⟨k, 1, none⟩ y).ownsRow B e z v n xs := own_set (own_set h hk) hk
theorem cell_old (w : World) (o : Obj) (a : Addr) (h : a.block < w.heap.size) : (w.alloc o).cell? a = w.cell? a := World.cell?_alloc_lt _ _ _ h
theorem boxed_on {W : World} {n : Nat} {x y : Value} {t : TypeId} {fr : Nat × Nat} (h : W.heap[n]? = some (.cells #[x, y] t fr)) (hn : n < W.heap.size) (x' y' : Value) (o : Obj) :
    (((W.setCell ⟨n, 0, none⟩ x').setCell ⟨n, 1, none⟩ y').alloc o).heap[n]? = some (.cells #[x', y'] t fr) :=
  (Below.heap_alloc _ _ _ (by simp only [World.size_setCell]; exact hn)).trans (set_both _ _ h)
set_option maxRecDepth 50000 in
set_option maxHeartbeats 6400000 in
theorem Lex_any (a : Option Addr) (n c : Nat) (l : List UInt8) (w : World) (hv : BytesAt w (.slice a n c) l) (hcap : n ≤ c) (hl : n ≤ 1000000) (hn : l.length = n) (T : LTabs w) :
    Calls Tryd.prog 6 #[.slice a n c] w (LexV l w) := by
  obtain ⟨W0, hW0⟩ : ∃ W0, W0 = w.alloc (.cells #[.int .i64 0, .int .i64 0] 27) := ⟨_, rfl⟩
  have hsz : W0.heap.size = w.heap.size + 1 := by rw [hW0]; simp
  have hB0 : Below w.heap.size w W0 := by rw [hW0]; exact below_b1 _ _
  have hb0 : W0.heap[w.heap.size]? = some (.cells #[.int .i64 0, .int .i64 0] 27 (0, 0)) := by rw [hW0]; exact World.alloc_heap_new _ _
  by_cases h8 : 8000 < n
  · have HV : Hid (lexS l = ([], (0, 0), 3)) := Lib.hid (by unfold lexS; rw [if_pos (by omega)])
    have hd : decide ((8000 : Int) < (n : Int)) = true := decide_eq_true (by omega)
    obtain ⟨c0, c1, f0, f1⟩ := box2_all hb0
    have HB0 := Lib.hid hb0
    have HBe := Lib.hid hB0
    subst hW0
    clear hv T hn h8 hb0 hB0 hsz
    go_enter Tryd.func6, Tryd.ntmps6
    go_wp2_with fail
    -- MARK1
    (try simp only [Exit.inBlock, Exit.then])
    refine bodyPost_ret (results_box33 rfl _ _ w.heap.size _ _ _ rfl HB0.out) rfl ?_
    exact lexV_of HV.out (own_nil _ _ _ _) HBe.out
  · have HV : Hid (lexS l = lexO 0 l) := Lib.hid (by unfold lexS; rw [if_neg (by omega)])
    have hd : decide ((8000 : Int) < (n : Int)) = false := decide_eq_false (by omega)
    have HN := Lib.hid hn
    have CF := Lib.hid (fun (m : Nat) (hm : m ≤ n) W (hW : Below w.heap.size w W) => first_any a n c l m W (RowAt.below hv hW (Nat.le_refl _)) hcap hm hl hn (T.below hW))
    have HB0 := Lib.hid hb0
    have HBe := Lib.hid hB0
    have HZ := Lib.hid hsz
    have HST := Lib.hid (lexAt_start l)
    clear hv T hn hb0 hB0 hsz
    go_enter Tryd.func6, Tryd.ntmps6
    go_wp2_with fail
    rw [← hW0]
    clear hW0
    -- MARK2
    go_loopw [2, 5] (fun x2 x5 wr => ∃ (m p : Nat) (pre : List Tok) (b : Option Addr) (cb : Nat), x2 = .slice b p cb ∧ x5 = .int .i64 (m : Int) ∧ m ≤ n ∧ p ≤ m ∧ Hid (pre.length = p) ∧ Hid (LexAt l m pre) ∧ Hid (wr.ownsRow (w.heap.size + 1) 33 5 (.slice b p cb) p (tcs pre)) ∧ Below W0.heap.size W0 wr) (fun _ x5 _ => n - (intOf x5).toNat)
    case atStart => exact ⟨0, 0, [], none, 0, rfl, rfl, Nat.zero_le _, Nat.le_refl _, Lib.hid rfl, HST, Lib.hid (own_nil _ _ _ _), Below.refl _ _⟩
    case round =>
      obtain ⟨m, p, pre, b, cb, rfl, rfl, hm, hpm, HP, HA, HO, hb⟩ := hrel
      have hBw : Below w.heap.size w wr := HBe.out.trans (hb.mono (by rw [HZ.out]; omega))
      have C := CF.out m hm wr hBw
      unfold firV at C
      obtain ⟨⟨⟨tk, tf, tt, tn, tx⟩, te⟩, ht⟩ : ∃ r, firstS m (l.drop m) = r := ⟨_, rfl⟩
      have HT := Lib.hid ht
      rw [ht] at C
      unfold tokA tokC at C
      simp only at C
      have HC := Lib.hid C
      clear C ht
      go_wp2_with fail
      refine HC.out.mono ?_
      rintro e w1 ⟨rfl, hb1⟩
      have hb2 := hb.trans (hb1.mono hb.size)
      have d0 := (hb2.block w.heap.size (by rw [HZ.out]; omega)).trans HB0.out
      have hs1 : w.heap.size < w1.heap.size := by have := hb2.size; rw [HZ.out] at this; omega
      obtain ⟨W1, hW1⟩ : ∃ W1, W1 = w1.alloc (.cells #[.int .i64 tk, .int .i64 tf, .int .i64 tt, .int .i64 tn, .string (str tx)] 33) := ⟨_, rfl⟩
      have d1 : W1.heap[w.heap.size]? = some (.cells #[.int .i64 0, .int .i64 0] 27 (0, 0)) := by rw [hW1]; exact (Below.heap_alloc _ _ _ hs1).trans d0
      have d2 : W1.heap[w1.heap.size]? = some (.cells #[.int .i64 tk, .int .i64 tf, .int .i64 tt, .int .i64 tn, .string (str tx)] 33 (0, 0)) := by rw [hW1]; exact World.alloc_heap_new _ _
      have hb3 : Below W0.heap.size W0 W1 := by rw [hW1]; exact hb2.alloc hb2.size _
      have HB3 := Lib.hid hb3
      have HBw3 : Hid (Below w.heap.size w W1) := Lib.hid (HBe.out.trans (hb3.mono (by rw [HZ.out]; omega)))
      have HO1 : Hid (W1.ownsRow (w.heap.size + 1) 33 5 (.slice b p cb) p (tcs pre)) := Lib.hid (by rw [hW1]; exact (own_below HO.out hb1).alloc _)
      obtain ⟨c0, c1, f0, f1⟩ := box2_all d0
      obtain ⟨⟨t0, t1, t2, t3, t4⟩, _⟩ := box5_facts d2
      have HD0 := Lib.hid d0
      have HS1 := Lib.hid hs1
      have HBw1 : Hid (Below w.heap.size w w1) := Lib.hid (HBe.out.trans (hb2.mono (by rw [HZ.out]; omega)))
      have HO0 := Lib.hid (own_below HO.out hb1)
      have HD1 := Lib.hid d1
      have hz1 : W1.heap.size = w1.heap.size + 1 := by rw [hW1]; simp
      have HZ1 := Lib.hid hz1
      subst hW1
      clear d0 d1 d2 hb3 hz1
      by_cases h4 : te = 4
      · subst h4
        have HE : Hid (lexS l = (pre, (0, 0), 0)) := Lib.hid (by rw [HV.out]; exact lexAt_end HA.out (by rw [HT.out]))
        go_wp2_with fail
        -- MARK3
        (try simp only [Exit.inBlock, Exit.then])
        refine bodyPost_ret (results_box33 rfl _ _ w.heap.size _ _ _ rfl (boxed_on HD0.out HS1.out _ _ _)) rfl ?_
        exact lexV_of HE.out (by rw [HP.out]; exact own_lower ((own_two HO0.out (by omega) _ _).alloc _) (by omega)) ((below_two HBw1.out (Nat.le_refl _)).alloc (by simp only [World.size_setCell]; omega) _)
      · have hne4 : ((te : Int) == 4) = false := beq_eq_false_iff_ne.2 h4
        by_cases h0 : te = 0
        · subst h0
          obtain ⟨q, hq1, hq2, hq3, HQ⟩ := lexAt_step HA.out (by rw [HT.out])
          rw [HT.out] at hq3 HQ
          rw [HN.out] at hq2
          simp only at hq3 HQ
          subst hq3
          have HQ := Lib.hid HQ
          obtain ⟨i0, hi, hz0, hz1, hz2⟩ := info_parts2 infoTk
          have HQ2 : Hid (∀ w2, ((w1.alloc (.cells #[.int .i64 tk, .int .i64 tf, .int .i64 (q : Int), .int .i64 tn, .string (str tx)] 33)).alloc (.cells #[.int .i64 tk, .int .i64 tf, .int .i64 (q : Int), .int .i64 tn, .string (str tx)] 33)).grownBy w2 (Value.slice b p cb).ownBlock → w2.cell? ⟨w1.heap.size, 2, none⟩ = some (.int .i64 (q : Int))) := Lib.hid (by
            intro w2 hgrow2
            have hne : some w1.heap.size ≠ (Value.slice b p cb).ownBlock := fun e => by have := (HO0.out.lt _ e.symm).2; omega
            refine (hgrow2.cell_far ⟨w1.heap.size, 2, none⟩ (by simp only [World.size_alloc]; omega) hne).trans ?_
            exact (cell_old _ _ _ (by simp only [World.size_alloc]; omega)).trans t2)
          clear h4
          go_wp2_with (at_builtin; refine wpList_append_own _ rfl _ _ 25 rfl (w.heap.size + 1) 33 i0 zeroTk 5 48 Tryd.underlying25 hi hz0 hz1 hz2 rfl (by decide) _ _ _ rfl (HO1.out.alloc _) ⟨w1.heap.size + 1, 0, none⟩ 1 1 (tokC (tk, tf, (q : Int), tn, tx)) rfl rfl (new_cellsT _ _ _ _ (by simp)) (one_tokC _) (by unfold maxLen; omega) (by omega) (by simp only [World.size_alloc]; omega) ?_; intro v' w2 hown2 hgrow2 _; have t2' := HQ2.out _ hgrow2)
          -- MARK4
          have HO5 : Hid (w2.ownsRow (w.heap.size + 1) 33 5 v' (p + 1) (tcs (pre ++ [(tk, tf, (q : Int), tn, tx)]))) := Lib.hid (by rw [tcs_app, tcs_one]; exact hown2)
          obtain ⟨b2, cb2, rfl⟩ := own_len HO5.out
          have hb5 : Below W0.heap.size W0 w2 := (HB3.out.alloc HB3.out.size _).grown hgrow2 (by have := HB3.out.size; simp only [World.size_alloc] at this ⊢; omega) (fun k hk => by have := (HO.out.lt k hk).1; rw [HZ.out]; exact this)
          go_roundw
          case rel => exact ⟨q, p + 1, _, b2, cb2, rfl, rfl, by omega, by omega, Lib.hid (by rw [List.length_append, HP.out]; rfl), HQ, HO5, hb5⟩
          case measure => simp [intOf]; omega
        · have hne0 : ((te : Int) != 0) = true := bne_iff_ne.2 h0
          have HE : Hid (lexS l = ([], (tf, tt), te)) := Lib.hid (by rw [HV.out, lexAt_bad HA.out (by rw [HT.out]; exact h4) (by rw [HT.out]; exact h0), HT.out])
          clear h4 h0
          go_wp2_with fail
          -- MARK5a
          go_region
          -- MARK5
          go_wp2_with fail
          (try simp only [Exit.inBlock, Exit.then])
          refine bodyPost_ret (results_box33 rfl _ _ w.heap.size _ _ _ rfl (boxed_on HD0.out HS1.out _ _ _)) rfl ?_
          exact lexV_of HE.out (own_nil _ _ _ _) (((below_two HBw1.out (Nat.le_refl _)).alloc (by simp only [World.size_setCell]; omega) _).drew)
end Go.Proofs.YtemoeohchhpilaaDoor
