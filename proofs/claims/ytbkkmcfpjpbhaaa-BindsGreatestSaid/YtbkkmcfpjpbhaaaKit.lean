/- Small laws of no program: rows of bytes that the call owns, append as a step of a region, a row of bytes as a string. -/
import Derived.WalkKit
import Derived.OwnWalk
import Derived.PlainAid
import Derived.Lib.Hide
import Derived.Lib.AppendStr
import Derived.Laws.BytesArg
import Derived.Deep.RegionLaw
namespace Go.Proofs.Ytbkkmcfpjpbhaaa
open Go.RowKit Go.PlainAid

theorem ret_bool {a b : Bool} (h : a = b) : Ending.returned (.bool a) = .returned (.bool b) := by rw [h]
theorem ret_int {k : IntKind} {a b : Int} (h : a = b) : Ending.returned (.int k a) = .returned (.int k b) := by rw [h]
theorem ret_str {a b : ByteArray} (h : a = b) : Ending.returned (.string a) = .returned (.string b) := by rw [h]
theorem ret_bv {a b : Bool} (h : a = b) : Value.bool a = .bool b := by rw [h]
theorem dec_t {p : Prop} [Decidable p] (h : p) : true = decide p := (decide_eq_true h).symm
theorem dec_f {p : Prop} [Decidable p] (h : ¬ p) : false = decide p := (decide_eq_false h).symm
theorem dec_dec {q p : Prop} [Decidable q] [Decidable p] (h : q ↔ p) : decide q = decide p := by rw [Bool.eq_iff_iff, decide_eq_true_iff, decide_eq_true_iff]; exact h
theorem dec_beq {a b : Int} {p : Prop} [Decidable p] (h : a = b ↔ p) : (a == b) = decide p := by rw [Bool.eq_iff_iff, decide_eq_true_iff, beq_iff_eq]; exact h
theorem dec_bne {a b : Int} {p : Prop} [Decidable p] (h : a ≠ b ↔ p) : (a != b) = decide p := by rw [Bool.eq_iff_iff, decide_eq_true_iff, bne_iff_ne]; exact h
theorem upto_succ {P : Nat → Prop} {k : Nat} (h : ∀ j, j < k → P j) (hk : P k) : ∀ j, j < k + 1 → P j := by
  intro j hj; by_cases e : j = k
  · rw [e]; exact hk
  · exact h j (by omega)

/-- Each byte of a string is as p says. -/
def allB (p : Int → Bool) (s : ByteArray) : Bool := decide (∀ k, k < s.size → p (bt s k) = true)
theorem allB_no {p : Int → Bool} {s : ByteArray} {k : Nat} (h : k < s.size) (hp : p (bt s k) = false) : allB p s = false := by
  unfold allB; rw [decide_eq_false]; intro h'; rw [h' k h] at hp; cases hp
theorem allB_yes {p : Int → Bool} {s : ByteArray} {k : Nat} (hk : s.size ≤ k) (h : ∀ j, j < k → p (bt s j) = true) : allB p s = true := by
  unfold allB; rw [decide_eq_true]; intro j hj; exact h j (by omega)
theorem empty_eq (s : ByteArray) : s.toList.isEmpty = decide (s.size = 0) := by
  rw [ByteArray.toList_eq]; rcases s with ⟨⟨l⟩⟩; cases l <;> simp [ByteArray.size]
theorem empty_yes {s : ByteArray} (h : s.size = 0) : s.toList.isEmpty = true := by rw [empty_eq, decide_eq_true h]
theorem empty_no {s : ByteArray} (h : 0 < s.size) : s.toList.isEmpty = false := by rw [empty_eq, decide_eq_false (by omega)]

/-- A byte as a cell. -/
def bc (c : UInt8) : Value := .int .u8 (c.toNat : Int)
/-- A list of bytes as a string. -/
def str (l : List UInt8) : ByteArray := ⟨l.toArray⟩
theorem str_size (l : List UInt8) : (str l).size = l.length := by simp [str, ByteArray.size]
theorem str_data (s : ByteArray) : str s.data.toList = s := by rcases s with ⟨⟨l⟩⟩; rfl
theorem str_list (l : List UInt8) : (str l).data.toList = l := rfl
theorem len_list (s : ByteArray) : s.data.toList.length = s.size := by simp
theorem bt_str (l : List UInt8) (k : Nat) (h : k < l.length) : bt (str l) k = (l[k].toNat : Int) := by
  unfold bt; rw [dif_pos (by rw [str_size]; exact h)]; rfl
theorem bt_get (s : ByteArray) (k : Nat) (h : k < s.size) : bt s k = (s[k].toNat : Int) := by unfold bt; rw [dif_pos h]

/-- The cells of a block that was just made. -/
theorem new_cells (w : World) (l : List Value) (t : TypeId) : ∀ j u, l[j]? = some u → (w.alloc (.cells l.toArray t)).cell? ((⟨w.heap.size, 0, none⟩ : Addr).add j) = some u := by
  intro j u h
  have e : (⟨w.heap.size, 0, none⟩ : Addr).add j = ⟨w.heap.size, j, none⟩ := by cases j <;> simp [Addr.add]
  rw [e, World.cell?_alloc_at _ _ _ _ rfl]
  simpa using h
theorem new_cells2 (w : World) (a b : Value) (t : TypeId) (n : Nat) (hn : w.heap.size = n) : ∀ j u, [a, b][j]? = some u → (w.alloc (.cells #[a, b] t)).cell? ((⟨n, 0, none⟩ : Addr).add j) = some u := by
  subst hn; exact new_cells w [a, b] t
theorem new_cells4 (w : World) (a b c d : Value) (t : TypeId) (n : Nat) (hn : w.heap.size = n) : ∀ j u, [a, b, c, d][j]? = some u → (w.alloc (.cells #[a, b, c, d] t)).cell? ((⟨n, 0, none⟩ : Addr).add j) = some u := by
  subst hn; exact new_cells w [a, b, c, d] t
theorem one_ints {l : List Value} (h : l.all (fun u => match u with | .int _ _ => true | _ => false) = true) : ∀ u ∈ l, u.oneCell' = true := by
  intro u hu; have := List.all_eq_true.1 h u hu; cases u <;> simp_all <;> rfl
theorem one_bc (l : List UInt8) : ∀ u ∈ l.map bc, u.oneCell' = true := by
  intro u hu; simp only [List.mem_map] at hu; obtain ⟨b, _, rfl⟩ := hu; rfl
/-- append to a row of the call's own, as one step of a region that draws its order. -/
theorem step_append_own {P : Program} {ops : Array Oper} {o : Oper} {a : Act} {w : World} {K : Act → World → Prop} {Q : Exit → Act → World → Prop} {E : Prop} (hgd : o.guard = none) (s x : Operand) (t : TypeId)
    (ho : o.op = .call { callee := .builtin .append, args := #[s, x], argTypes := #[t, t] })
    (base : Nat) (e : TypeId) (i : TypeInfo) (z : Value) (size bytes : Nat) (ht : P.underlying t = some (.slice e)) (hi : P.info? e = some i) (hz : i.zero = some z)
    (hsize : i.size = size) (hby : i.bytes = bytes) (hzs : z.cells.size = size) (hsz : 0 < size)
    (v : Value) (n : Nat) (xs : List Value) (hs : a.eval s = v) (hown : w.ownsRow base e size v n xs)
    (ad : Addr) (m c : Nat) (news : List Value) (hx : a.eval x = .slice (some ad) m c) (hl : news.length = m * size) (hnews : ∀ j u, news[j]? = some u → w.cell? (ad.add j) = some u) (h1 : ∀ u ∈ news, u.oneCell' = true)
    (h63 : n + m ≤ maxLen) (hbytes : (n + m) * bytes ≤ 140737488355328) (hbase : base ≤ w.heap.size)
    (h : ∀ v' w', w'.ownsRow base e size v' (n + m) (xs ++ news) → w.grownBy w' v.ownBlock → (v' = .slice none 0 0 ↔ v = .slice none 0 0 ∧ m = 0) → K (a.put o.dst v') w') :
    if Region.wanted o (yielded ops a.tmps) = true then Oper.wp P o a w K Q else E := by
  have hw : Region.wanted o (yielded ops a.tmps) = true := by simp [Region.wanted, hgd]
  rw [if_pos hw]
  exact wp_append_own w s x t ho base e i z size bytes ht hi hz hsize hby hzs hsz v n xs hs hown ad m c news hx hl hnews h1 h63 hbytes hbase h

/-- A row that the call owns, behind a call that turned nothing that was there. -/
theorem own_below {W W' : World} {B e size n : Nat} {v : Value} {xs : List Value} (h : W.ownsRow B e size v n xs) (hb : Below W.heap.size W W') : W'.ownsRow B e size v n xs := by
  obtain ⟨h1, h2⟩ := h
  refine ⟨h1, ?_⟩
  rcases h2 with h2 | ⟨g, cap, cur, e1, hg, hc, r⟩
  · exact .inl h2
  · have hlt : g < W.heap.size := (Array.getElem?_eq_some_iff.1 hc).1
    exact .inr ⟨g, cap, cur, e1, hg, (hb.block g hlt).trans hc, r⟩

theorem strCells_str (x : List UInt8) : Lib.strCells (str x) = x.map bc := rfl
theorem own_app_str {w : World} {B : Nat} {e : TypeId} {v : Value} {m x : List UInt8} (h : w.ownsRow B e 1 v (m.length + (str x).size) (m.map bc ++ Lib.strCells (str x))) :
    w.ownsRow B e 1 v (m ++ x).length ((m ++ x).map bc) := by
  rw [List.length_append, List.map_append, ← str_size x]; exact h
theorem own_app {w : World} {B : Nat} {e : TypeId} {v : Value} {m x : List UInt8} {n : Nat} (hn : x.length = n) (h : w.ownsRow B e 1 v (m.length + n) (m.map bc ++ x.map bc)) :
    w.ownsRow B e 1 v (m ++ x).length ((m ++ x).map bc) := by
  rw [List.length_append, List.map_append, hn]; exact h

/-- A row of bytes that the call owns, as a string. -/
theorem conv_own {P : Program} {w : World} {B : Nat} {e src : TypeId} {v : Value} {l : List UInt8} {n : Nat} (hs : P.underlying src = some (.slice e)) (he : P.underlying e = some (.int .u8))
    (h : w.ownsRow B e 1 v n (l.map bc)) : ∀ dst, P.underlying dst = some .string → (convert src dst v).run P w = .ok (.string (str l)) w := by
  intro dst hd
  obtain ⟨hlen, h⟩ := h
  have hlen' : l.length = n := by simpa using hlen
  rcases h with ⟨rfl, hn⟩ | ⟨g, cap, cur, rfl, _, hg, hn, _, hsz, htake⟩
  · have : l = [] := by cases l with
      | nil => rfl
      | cons a l => simp at hlen'; omega
    rw [this, run_convert_bytes_nil w src e hs he 0 0 dst hd]; rfl
  · have hxs : (l.map fun b => (b.toNat : Int)).length = n := by simpa using hlen'
    rw [run_convert_bytes_arg w src e hs he g 0 n cap (l.map fun b => (b.toNat : Int)) hxs (fun i hi => ?_) dst hd]
    · congr 2
      unfold strOfNums str
      rw [List.map_map]
      congr 1
      have : ((fun n : Int => UInt8.ofNat n.toNat) ∘ fun b : UInt8 => (b.toNat : Int)) = id := by funext b; simp
      rw [this, List.map_id]
    · rw [Nat.zero_add, cell_of_row _ _ _ _ _ _ hg]
      have e1 : (l.map bc)[i]? = cur.toList[i]? := by rw [← htake, List.getElem?_take]; simp [hi]
      rw [← Array.getElem?_toList, ← e1]
      have hil : i < l.length := by omega
      simp [hil, bc, List.getD]
end Go.Proofs.Ytbkkmcfpjpbhaaa
