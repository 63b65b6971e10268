/- Rows of bytes as strings. -/
import Derived.Laws.AppendOwnNone
import Derived.Test.YtemoeohchhpilaaDoorRbytes
namespace Go.Proofs.YtemoeohchhpilaaDoor
open Go.RowKit Go.PlainAid

/-- A source of an append: nil, or a row at an address. -/
def SrcAt (w : World) (v : Value) (m : Nat) (news : List Value) : Prop :=
  (v = .slice none 0 0 ∧ m = 0 ∧ news = []) ∨ ∃ ad c, v = .slice (some ad) m c ∧ ∀ j u, news[j]? = some u → w.cell? (ad.add j) = some u
/-- An argument: its value is written out. -/
def ArgAt (w : World) (v : Value) (cs : List Value) : Prop := ∃ a n c, v = .slice a n c ∧ n = cs.length ∧ n ≤ c ∧ SrcAt w (.slice a n c) n cs
theorem SrcAt.below {B : Nat} {w w' : World} {v : Value} {m : Nat} {news : List Value} (h : SrcAt w v m news) (hb : Below B w w') (hB : w.heap.size ≤ B) : SrcAt w' v m news := by
  rcases h with h | ⟨ad, c, e, hc⟩
  · exact .inl h
  · refine .inr ⟨ad, c, e, fun j u hj => ?_⟩
    have h1 := hc j u hj
    exact (hb.cell (Nat.lt_of_lt_of_le (World.block_lt_of_cell? w _ h1) hB)).trans h1
theorem SrcAt.row {w : World} {v : Value} {n : Nat} {cs : List Value} (h : SrcAt w v n cs) (hn : n = cs.length) : RowAt w v cs := by
  rcases h with ⟨rfl, rfl, rfl⟩ | ⟨ad, c, rfl, hc⟩
  · exact .inl ⟨_, _, rfl, rfl⟩
  · by_cases h0 : cs = []
    · subst h0; subst hn; exact .inl ⟨_, _, rfl, rfl⟩
    · obtain ⟨b, off, spot⟩ := ad
      have hl : 0 < cs.length := List.length_pos_iff.2 h0
      have hspot : spot = none := by
        have := hc 0 cs[0] (List.getElem?_eq_getElem hl)
        simpa [Addr.add] using World.cell?_spot this
      subst hspot
      have h00 := hc 0 cs[0] (List.getElem?_eq_getElem hl)
      have hlt := World.block_lt_of_cell? w _ h00
      refine .inr ⟨b, off, n, c, rfl, hn, ?_, fun j u hj => ?_⟩
      · rw [Go.WideShapes.add_plain] at hlt; exact hlt
      · have := hc j u hj
        rwa [Go.WideShapes.add_plain] at this
theorem SrcAt.own {w : World} {B : Nat} {e : TypeId} {v : Value} {n : Nat} {l : List Value} (h : w.ownsRow B e 1 v n l) : SrcAt w v n l := by
  by_cases hn : 1 ≤ n
  · obtain ⟨g, cap, rfl, _, _, hc⟩ := own_some h hn
    exact .inr ⟨_, cap, rfl, hc⟩
  · obtain rfl : n = 0 := by omega
    have hl : l = [] := List.eq_nil_of_length_eq_zero (by have := h.1; omega)
    subst hl
    rcases h.2 with ⟨rfl, _⟩ | ⟨g, cap, cur, rfl, _⟩
    · exact .inl ⟨rfl, rfl, rfl⟩
    · exact .inr ⟨_, cap, rfl, fun j u hj => by simp at hj⟩
theorem ArgAt.row {w : World} {v : Value} {cs : List Value} (h : ArgAt w v cs) : RowAt w v cs := by
  obtain ⟨a, n, c, rfl, hn, _, hs⟩ := h
  exact hs.row hn
theorem ArgAt.below {B : Nat} {w w' : World} {v : Value} {cs : List Value} (h : ArgAt w v cs) (hb : Below B w w') (hB : w.heap.size ≤ B) : ArgAt w' v cs := by
  obtain ⟨a, n, c, e, hn, hc, hs⟩ := h
  exact ⟨a, n, c, e, hn, hc, hs.below hb hB⟩
theorem wpList_append_any {P : Program} {w : World} {ops : Array Oper} {rest : List Oper} {o : Oper} {a : Act} {Q : Exit → Act → World → Prop} (hgd : o.guard = none) (s x : Operand) (t : TypeId)
    (ho : o.op = .call { callee := .builtin .append, args := #[s, x], argTypes := #[t, t] })
    (base : Nat) (e : TypeId) (i : TypeInfo) (z : Value) (bytes : Nat) (ht : P.underlying t = some (.slice e)) (hi : P.info? e = some i) (hz : i.zero = some z)
    (hsize : i.size = 1) (hby : i.bytes = bytes) (hzs : z.cells.size = 1)
    (v : Value) (n : Nat) (xs : List Value) (hs : a.eval s = v) (hown : w.ownsRow base e 1 v n xs)
    (vx : Value) (m : Nat) (news : List Value) (hx : a.eval x = vx) (hsrc : SrcAt w vx m news) (hl : news.length = m) (h1 : ∀ u ∈ news, u.oneCell' = true)
    (h63 : n + m ≤ maxLen) (hbytes : (n + m) * bytes ≤ 140737488355328) (hbase : base ≤ w.heap.size)
    (h : ∀ v' w', w'.ownsRow base e 1 v' (n + m) (xs ++ news) → w.grownBy w' v.ownBlock → wpList P ops Q rest (a.put o.dst v') w') : wpList P ops Q (o :: rest) a w := by
  rcases hsrc with ⟨rfl, rfl, rfl⟩ | ⟨ad, c, rfl, hc⟩
  · refine wpList_append_own_none hgd s x t ho base e i 1 ht hi v n xs hs hown hx ?_
    exact h v w (by simpa using hown) (World.grownBy.refl w _)
  · exact wpList_append_own w hgd s x t ho base e i z 1 bytes ht hi hz hsize hby hzs (by decide) v n xs hs hown ad m c news hx (by omega) hc h1 h63 hbytes hbase fun v' w' h2 h3 _ => h v' w' h2 h3

theorem one_all (k : IntKind) (l : List Int) : ∀ u ∈ l.map (Value.int k), u.oneCell' = true := by
  intro u hu; simp only [List.mem_map] at hu; obtain ⟨b, _, rfl⟩ := hu; rfl
theorem conv_src {w : World} {v : Value} {n : Nat} {l : List UInt8} (h : SrcAt w v n (l.map bc)) (hn : n = l.length) : (convert 22 9 v).run Tryd.prog w = .ok (.string (str l)) w := by
  have hr := h.row (by rw [List.length_map]; exact hn)
  rcases h with ⟨rfl, rfl, h⟩ | ⟨ad, c, rfl, hc⟩
  · obtain rfl : l = [] := by simpa using h
    exact run_convert_bytes_nil w 22 5 Tryd.underlying22 Tryd.underlying5 0 0 9 Tryd.underlying9
  · subst hn
    by_cases h0 : l = []
    · subst h0
      have hl : (loadCells ad 0).run Tryd.prog w = .ok (([] : List Int).map (Value.int .u8)).toArray w := run_loadCells_list (P := Tryd.prog) w ad [] (fun j v hj => by simp at hj)
      exact (run_convert_bytes_string w 22 9 5 _ _ c Tryd.underlying22 Tryd.underlying5 Tryd.underlying9).trans (run_bytesToString w ad 0 c [] hl)
    · rcases hr with ⟨_, _, _, hnil⟩ | ⟨g, off, nn, cc, he, hnn, _, hcell⟩
      · exact absurd (List.map_eq_nil_iff.1 hnil) h0
      · obtain ⟨h1, h2, _⟩ := Value.slice.inj he
        obtain rfl := Option.some.inj h1
        rw [run_convert_bytes_arg w 22 5 Tryd.underlying22 Tryd.underlying5 g off l.length c (l.map ub) (by simp) (fun i hi => ?_) 9 Tryd.underlying9]
        · congr 2
          unfold strOfNums str
          rw [List.map_map]
          congr 1
          have : ((fun n : Int => UInt8.ofNat n.toNat) ∘ ub) = id := by funext b; simp [ub]
          rw [this, List.map_id]
        · rw [hcell i (bc l[i]) (by simp [hi]), List.getD_eq_getElem?_getD, List.getElem?_eq_getElem (by simpa using hi)]
          simp [bc, ub]
end Go.Proofs.YtemoeohchhpilaaDoor
