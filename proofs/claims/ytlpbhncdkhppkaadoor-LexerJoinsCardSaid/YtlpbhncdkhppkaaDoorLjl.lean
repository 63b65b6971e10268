/- What LexerJoins needs of memory and of spans. -/
import Derived.Test.YtlpbhncdkhppkaaDoorLjm
import Derived.Test.YtlpbhncdkhppkaaDoorLsamt
import Derived.Test.YtlpbhncdkhppkaaDoorLlt
namespace Go.Proofs.YtlpbhncdkhppkaaDoor
open Go.RowKit Go.PlainAid

/-- Spans of tokens lie within the text. -/
theorem lex_span : ∀ (f off : Nat) (L : List UInt8), L.length ≤ f → ∀ t ∈ (lexO off L).1, (off : Int) ≤ t.2.1 ∧ t.2.1 ≤ t.2.2.1 ∧ t.2.2.1 ≤ ((off + L.length : Nat) : Int) := by
  intro f
  induction f with
  | zero =>
    intro off L h
    obtain rfl : L = [] := List.eq_nil_of_length_eq_zero (by omega)
    rw [lexO_none (by rw [firstS_nil])]
    intro t ht; cases ht
  | succ f ih =>
    intro off L h
    by_cases hne : L.drop (spN L) = []
    · rw [lexO_none (firstS_none.2 hne)]; intro t ht; cases ht
    have h4 : (firstS off L).2 ≠ 4 := fun e => hne (firstS_none.1 e)
    by_cases h0 : (firstS off L).2 = 0
    · have hst := stepN_le hne
      have hp := firstS_pos (off := off) hne
      have i1 := ih (off + (spN L + tokN (L.drop (spN L)))) (L.drop (spN L + tokN (L.drop (spN L)))) (by rw [List.length_drop]; omega)
      rw [lexO_ok h0]
      by_cases h2 : (lexO (off + (spN L + tokN (L.drop (spN L)))) (L.drop (spN L + tokN (L.drop (spN L))))).2.2 = 0
      · rw [if_pos h2]
        intro t ht
        rcases List.mem_cons.1 ht with rfl | ht
        · rw [hp]; simp only; omega
        · have := i1 t ht
          rw [List.length_drop] at this
          omega
      · rw [if_neg h2]
        intro t ht
        have := i1 t ht
        rw [List.length_drop] at this
        omega
    · rw [lexO_bad h4 h0]; intro t ht; cases ht
theorem lex_len2 : ∀ (f off : Nat) (L : List UInt8), L.length ≤ f → (lexO off L).1.length ≤ L.length := by
  intro f
  induction f with
  | zero =>
    intro off L h
    obtain rfl : L = [] := List.eq_nil_of_length_eq_zero (by omega)
    rw [lexO_none (by rw [firstS_nil])]; exact Nat.le_refl _
  | succ f ih =>
    intro off L h
    by_cases hne : L.drop (spN L) = []
    · rw [lexO_none (firstS_none.2 hne)]; exact Nat.zero_le _
    have h4 : (firstS off L).2 ≠ 4 := fun e => hne (firstS_none.1 e)
    by_cases h0 : (firstS off L).2 = 0
    · have hst := stepN_le hne
      have i1 := ih (off + (spN L + tokN (L.drop (spN L)))) (L.drop (spN L + tokN (L.drop (spN L)))) (by rw [List.length_drop]; omega)
      rw [List.length_drop] at i1
      rw [lexO_ok h0]
      split
      · simp only [List.length_cons]; omega
      · omega
    · rw [lexO_bad h4 h0]; exact Nat.zero_le _
/-- The three ways of two texts. -/
theorem join_1 {a b : List UInt8} (ha : a.length ≤ 300) (hb : b.length ≤ 300) (h : (lexS a).2.2 ≠ 0) : lexS (a ++ 10 :: b) = lexS a := by
  have hl : (a ++ 10 :: b).length ≤ 8000 := by simp; omega
  rw [lexS_small hl, lexS_small (by omega)] at *
  rw [lex_join _ 0 a b (Nat.le_refl _), if_neg h]
theorem join_2 {a b : List UInt8} (ha : a.length ≤ 300) (hb : b.length ≤ 300) (h : (lexS a).2.2 = 0) (h2 : (lexS b).2.2 ≠ 0) : lexS (a ++ 10 :: b) = ([], ((lexS b).2.1.1 + ((a.length + 1 : Nat) : Int), (lexS b).2.1.2 + ((a.length + 1 : Nat) : Int)), (lexS b).2.2) := by
  have hl : (a ++ 10 :: b).length ≤ 8000 := by simp; omega
  rw [lexS_small (l := a) (by omega)] at h
  rw [lexS_small (l := b) (by omega)] at h2 ⊢
  rw [lexS_small hl, lex_join _ 0 a b (Nat.le_refl _), if_pos h, show 0 + a.length + 1 = 0 + (a.length + 1) by omega, lex_shift (a.length + 1) _ 0 b (Nat.le_refl _), if_neg h2, if_neg h2]
theorem join_3 {a b : List UInt8} (ha : a.length ≤ 300) (hb : b.length ≤ 300) (h : (lexS a).2.2 = 0) (h2 : (lexS b).2.2 = 0) : lexS (a ++ 10 :: b) = ((lexS a).1 ++ (lexS b).1.map (shT (a.length + 1)), (0, 0), 0) := by
  have hl : (a ++ 10 :: b).length ≤ 8000 := by simp; omega
  rw [lexS_small (l := a) (by omega)] at h ⊢
  rw [lexS_small (l := b) (by omega)] at h2 ⊢
  rw [lexS_small hl, lex_join _ 0 a b (Nat.le_refl _), if_pos h, show 0 + a.length + 1 = 0 + (a.length + 1) by omega, lex_shift (a.length + 1) _ 0 b (Nat.le_refl _), if_pos h2, if_pos rfl]
/-- Tokens whose first ones are shifted. -/
def mixT (k : Nat) (l : List Tok) (i : Nat) : List Tok := (l.take i).map (shT k) ++ l.drop i
theorem mix_0 (k : Nat) (l : List Tok) : mixT k l 0 = l := by unfold mixT; simp
theorem mix_all (k : Nat) (l : List Tok) {i : Nat} (h : l.length ≤ i) : mixT k l i = l.map (shT k) := by
  unfold mixT; rw [List.take_of_length_le h, List.drop_of_length_le h, List.append_nil]
theorem mix_len (k : Nat) (l : List Tok) (i : Nat) : (mixT k l i).length = l.length := by
  unfold mixT; rw [List.length_append, List.length_map, List.length_take, List.length_drop]; omega
theorem mix_at {k : Nat} {l : List Tok} {i : Nat} {t : Tok} (h : l[i]? = some t) : (mixT k l i)[i]? = some t := by
  obtain ⟨hi, rfl⟩ := List.getElem?_eq_some_iff.1 h
  unfold mixT
  rw [List.getElem?_append_right (by simp; omega)]
  have : i - (List.map (shT k) (l.take i)).length = 0 := by simp; omega
  rw [this, List.getElem?_drop, Nat.add_zero, List.getElem?_eq_getElem hi]
theorem mix_set {k : Nat} {l : List Tok} {i : Nat} {t : Tok} (h : l[i]? = some t) (x y : Int) (hx : t.2.1 + (k : Int) = x) (hy : t.2.2.1 + (k : Int) = y) :
    ((tcs (mixT k l i)).set (i * 5 + 1) (.int .i64 x)).set (i * 5 + 2) (.int .i64 y) = tcs (mixT k l (i + 1)) := by
  obtain ⟨hi, rfl⟩ := List.getElem?_eq_some_iff.1 h
  have hA : (tcs ((l.take i).map (shT k))).length = i * 5 := by rw [tcs_len, List.length_map, List.length_take]; congr 1; omega
  have e1 : mixT k l i = (l.take i).map (shT k) ++ l[i] :: l.drop (i + 1) := by unfold mixT; rw [List.drop_eq_getElem_cons hi]
  have e2 : mixT k l (i + 1) = (l.take i).map (shT k) ++ shT k l[i] :: l.drop (i + 1) := by
    unfold mixT; rw [List.take_add_one, List.getElem?_eq_getElem hi]; simp only [Option.toList_some]; rw [List.map_append, List.append_assoc]; rfl
  rw [e1, e2, tcs_app, tcs_app, List.set_append_right _ _ (by omega), List.set_append_right _ _ (by omega), hA]
  congr 1
  rw [show i * 5 + 1 - i * 5 = 1 by omega, show i * 5 + 2 - i * 5 = 2 by omega, tcs_cons, tcs_cons, ← hx, ← hy]
  rfl
theorem src_own5 {w : World} {B n : Nat} {e : TypeId} {v : Value} {xs : List Value} (h : w.ownsRow B e 5 v n xs) (hl : xs.length = n * 5) : SrcAt w v n xs := by
  rcases own_form h with ⟨rfl, h0⟩ | ⟨g, c, rfl, h1, h2⟩
  · exact .inl ⟨rfl, h0, List.eq_nil_of_length_eq_zero (by omega)⟩
  · exact .inr ⟨⟨g, 0, none⟩, c, rfl, fun j u hj => h.cells (g := g) rfl j u hj⟩
theorem wpList_append_5 {P : Program} {w : World} {ops : Array Oper} {rest : List Oper} {o : Oper} {a : Act} {Q : Exit → Act → World → Prop} (hgd : Region.wanted o (yielded ops a.tmps) = true) (s x : Operand) (t : TypeId)
    (ho : o.op = .call { callee := .builtin .append, args := #[s, x], argTypes := #[t, t] })
    (base : Nat) (e : TypeId) (i : TypeInfo) (z : Value) (bytes : Nat) (ht : P.underlying t = some (.slice e)) (hi : P.info? e = some i) (hz : i.zero = some z)
    (hsize : i.size = 5) (hby : i.bytes = bytes) (hzs : z.cells.size = 5)
    (v : Value) (n : Nat) (xs : List Value) (hs : a.eval s = v) (hown : w.ownsRow base e 5 v n xs)
    (vx : Value) (m : Nat) (news : List Value) (hx : a.eval x = vx) (hsrc : SrcAt w vx m news) (hl : news.length = m * 5) (h1 : ∀ u ∈ news, u.oneCell' = true)
    (h63 : n + m ≤ maxLen) (hbytes : (n + m) * bytes ≤ 140737488355328) (hbase : base ≤ w.heap.size)
    (h : ∀ v' w', w'.ownsRow base e 5 v' (n + m) (xs ++ news) → w.grownBy w' v.ownBlock → wpList P ops Q rest (a.put o.dst v') w') : wpList P ops Q (o :: rest) a w := by
  rcases hsrc with ⟨rfl, rfl, rfl⟩ | ⟨ad, c, rfl, hc⟩
  · refine wpList_step fun K hK => ?_
    rw [if_pos hgd]
    have hrun := run_append_owned_none (P := P) (w := w) base t o.type e i 5 ht hi v n xs hown
    unfold Oper.wp
    simp [execOp, ho, resolve, invoke, builtin, hs, hx, hrun, Result.andThen]
    exact hK _ _ (h v w (by simpa using hown) (World.grownBy.refl w _))
  · refine wpList_step fun K hK => ?_
    rw [if_pos hgd]
    exact wp_append_own w s x t ho base e i z 5 bytes ht hi hz hsize hby hzs (by decide) v n xs hs hown ad m c news hx hl hc h1 h63 hbytes hbase fun v' w' h2 h3 _ => hK _ _ (h v' w' h2 h3)
theorem one_tcs (l : List Tok) : ∀ u ∈ tcs l, u.oneCell' = true := by
  intro u hu
  unfold tcs at hu
  obtain ⟨t, _, h⟩ := List.mem_flatMap.1 hu
  exact one_tokC t u h
theorem own_not {w W : World} {B B' n m z z' : Nat} {e e' : TypeId} {v v' : Value} {xs ys : List Value} (h : w.ownsRow B e z v n xs) (h' : W.ownsRow B' e' z' v' m ys) (hlt : w.heap.size ≤ B') : ∀ g, v'.ownBlock = some g → v.ownBlock ≠ some g := by
  intro g hg e
  have h1 := (h.lt g e).2
  have h2 := (h'.lt g hg).1
  omega
end Go.Proofs.YtlpbhncdkhppkaaDoor
