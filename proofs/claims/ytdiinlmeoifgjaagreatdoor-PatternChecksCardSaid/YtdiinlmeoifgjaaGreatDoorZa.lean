import Derived.WalkKit
import Derived.OwnWalk
import Derived.PlainAid
import Derived.Lib.Hide
import Derived.Lib.AppendStr
import Derived.Laws.BytesArg
import Derived.Deep.RegionLaw
import Derived.Test.YtdiinlmeoifgjaaGreatDoorProg
import Derived.BigGuardPart
import Derived.Deep.DeepCutAuto
import Derived.RangeFuncNested
/- Small laws of no program: rows of bytes that the call owns, append as a step of a region, a row of bytes as a string. -/
namespace Go.Proofs.YtdiinlmeoifgjaaGreatDoor
open Go.RowKit Go.PlainAid

theorem ret_bool {a b : Bool} (h : a = b) : Ending.returned (.bool a) = .returned (.bool b) := by rw [h]
theorem ret_int {k : IntKind} {a b : Int} (h : a = b) : Ending.returned (.int k a) = .returned (.int k b) := by rw [h]
theorem ret_str {a b : ByteArray} (h : a = b) : Ending.returned (.string a) = .returned (.string b) := by rw [h]
theorem ret_bv {a b : Bool} (h : a = b) : Value.bool a = .bool b := by rw [h]
theorem dec_t {p : Prop} [Decidable p] (h : p) : true = decide p := (decide_eq_true h).symm
theorem dec_f {p : Prop} [Decidable p] (h : ¬ p) : false = decide p := (decide_eq_false h).symm
theorem dec_dec {q p : Prop} [Decidable q] [Decidable p] (h : q ↔ p) : decide q = decide p := by rw [Bool.eq_iff_iff, decide_eq_true_iff, decide_eq_true_iff]; exact h
theorem dec_beq {a b : Int} {p : Prop} [Decidable p] (h : a = b ↔ p) : (a == b) = decide p := by rw [Bool.eq_iff_iff, decide_eq_true_iff, beq_iff_eq]; exact h
theorem dec_bne {a b : Int} {p : Prop} [Decidable p] (h : a ≠ b ↔ p) : (a != b) = decide p := by rw [Bool.eq_iff_iff, decide_eq_true_iff, bne_iff_ne]; exact h
theorem upto_succ {P : Nat → Prop} {k : Nat} (h : ∀ j, j < k → P j) (hk : P k) : ∀ j, j < k + 1 → P j := by
  intro j hj; by_cases e : j = k
  · rw [e]; exact hk
  · exact h j (by omega)

/-- Each byte of a string is as p says. -/
def allB (p : Int → Bool) (s : ByteArray) : Bool := decide (∀ k, k < s.size → p (bt s k) = true)
theorem allB_no {p : Int → Bool} {s : ByteArray} {k : Nat} (h : k < s.size) (hp : p (bt s k) = false) : allB p s = false := by
  unfold allB; rw [decide_eq_false]; intro h'; rw [h' k h] at hp; cases hp
theorem allB_yes {p : Int → Bool} {s : ByteArray} {k : Nat} (hk : s.size ≤ k) (h : ∀ j, j < k → p (bt s j) = true) : allB p s = true := by
  unfold allB; rw [decide_eq_true]; intro j hj; exact h j (by omega)
theorem empty_eq (s : ByteArray) : s.toList.isEmpty = decide (s.size = 0) := by
  rw [ByteArray.toList_eq]; rcases s with ⟨⟨l⟩⟩; cases l <;> simp [ByteArray.size]
theorem empty_yes {s : ByteArray} (h : s.size = 0) : s.toList.isEmpty = true := by rw [empty_eq, decide_eq_true h]
theorem empty_no {s : ByteArray} (h : 0 < s.size) : s.toList.isEmpty = false := by rw [empty_eq, decide_eq_false (by omega)]

/-- A byte as a cell. -/
def bc (c : UInt8) : Value := .int .u8 (c.toNat : Int)
/-- A list of bytes as a string. -/
def str (l : List UInt8) : ByteArray := ⟨l.toArray⟩
theorem str_size (l : List UInt8) : (str l).size = l.length := by simp [str, ByteArray.size]
theorem str_data (s : ByteArray) : str s.data.toList = s := by rcases s with ⟨⟨l⟩⟩; rfl
theorem str_list (l : List UInt8) : (str l).data.toList = l := rfl
theorem len_list (s : ByteArray) : s.data.toList.length = s.size := by simp
theorem bt_str (l : List UInt8) (k : Nat) (h : k < l.length) : bt (str l) k = (l[k].toNat : Int) := by
  unfold bt; rw [dif_pos (by rw [str_size]; exact h)]; rfl
theorem bt_get (s : ByteArray) (k : Nat) (h : k < s.size) : bt s k = (s[k].toNat : Int) := by unfold bt; rw [dif_pos h]

/-- The cells of a block that was just made. -/
theorem new_cells (w : World) (l : List Value) (t : TypeId) : ∀ j u, l[j]? = some u → (w.alloc (.cells l.toArray t)).cell? ((⟨w.heap.size, 0, none⟩ : Addr).add j) = some u := by
  intro j u h
  have e : (⟨w.heap.size, 0, none⟩ : Addr).add j = ⟨w.heap.size, j, none⟩ := by cases j <;> simp [Addr.add]
  rw [e, World.cell?_alloc_at _ _ _ _ rfl]
  simpa using h
theorem new_cells2 (w : World) (a b : Value) (t : TypeId) (n : Nat) (hn : w.heap.size = n) : ∀ j u, [a, b][j]? = some u → (w.alloc (.cells #[a, b] t)).cell? ((⟨n, 0, none⟩ : Addr).add j) = some u := by
  subst hn; exact new_cells w [a, b] t
theorem new_cells4 (w : World) (a b c d : Value) (t : TypeId) (n : Nat) (hn : w.heap.size = n) : ∀ j u, [a, b, c, d][j]? = some u → (w.alloc (.cells #[a, b, c, d] t)).cell? ((⟨n, 0, none⟩ : Addr).add j) = some u := by
  subst hn; exact new_cells w [a, b, c, d] t
theorem one_ints {l : List Value} (h : l.all (fun u => match u with | .int _ _ => true | _ => false) = true) : ∀ u ∈ l, u.oneCell' = true := by
  intro u hu; have := List.all_eq_true.1 h u hu; cases u <;> simp_all <;> rfl
theorem one_bc (l : List UInt8) : ∀ u ∈ l.map bc, u.oneCell' = true := by
  intro u hu; simp only [List.mem_map] at hu; obtain ⟨b, _, rfl⟩ := hu; rfl
/-- append to a row of the call's own, as one step of a region that draws its order. -/
theorem step_append_own {P : Program} {ops : Array Oper} {o : Oper} {a : Act} {w : World} {K : Act → World → Prop} {Q : Exit → Act → World → Prop} {E : Prop} (hgd : o.guard = none) (s x : Operand) (t : TypeId)
    (ho : o.op = .call { callee := .builtin .append, args := #[s, x], argTypes := #[t, t] })
    (base : Nat) (e : TypeId) (i : TypeInfo) (z : Value) (size bytes : Nat) (ht : P.underlying t = some (.slice e)) (hi : P.info? e = some i) (hz : i.zero = some z)
    (hsize : i.size = size) (hby : i.bytes = bytes) (hzs : z.cells.size = size) (hsz : 0 < size)
    (v : Value) (n : Nat) (xs : List Value) (hs : a.eval s = v) (hown : w.ownsRow base e size v n xs)
    (ad : Addr) (m c : Nat) (news : List Value) (hx : a.eval x = .slice (some ad) m c) (hl : news.length = m * size) (hnews : ∀ j u, news[j]? = some u → w.cell? (ad.add j) = some u) (h1 : ∀ u ∈ news, u.oneCell' = true)
    (h63 : n + m ≤ maxLen) (hbytes : (n + m) * bytes ≤ 140737488355328) (hbase : base ≤ w.heap.size)
    (h : ∀ v' w', w'.ownsRow base e size v' (n + m) (xs ++ news) → w.grownBy w' v.ownBlock → (v' = .slice none 0 0 ↔ v = .slice none 0 0 ∧ m = 0) → K (a.put o.dst v') w') :
    if Region.wanted o (yielded ops a.tmps) = true then Oper.wp P o a w K Q else E := by
  have hw : Region.wanted o (yielded ops a.tmps) = true := by simp [Region.wanted, hgd]
  rw [if_pos hw]
  exact wp_append_own w s x t ho base e i z size bytes ht hi hz hsize hby hzs hsz v n xs hs hown ad m c news hx hl hnews h1 h63 hbytes hbase h

/-- A row that the call owns, behind a call that turned nothing that was there. -/
theorem own_below {W W' : World} {B e size n : Nat} {v : Value} {xs : List Value} (h : W.ownsRow B e size v n xs) (hb : Below W.heap.size W W') : W'.ownsRow B e size v n xs := by
  obtain ⟨h1, h2⟩ := h
  refine ⟨h1, ?_⟩
  rcases h2 with h2 | ⟨g, cap, cur, e1, hg, hc, r⟩
  · exact .inl h2
  · have hlt : g < W.heap.size := (Array.getElem?_eq_some_iff.1 hc).1
    exact .inr ⟨g, cap, cur, e1, hg, (hb.block g hlt).trans hc, r⟩

theorem strCells_str (x : List UInt8) : Lib.strCells (str x) = x.map bc := rfl
theorem own_app_str {w : World} {B : Nat} {e : TypeId} {v : Value} {m x : List UInt8} (h : w.ownsRow B e 1 v (m.length + (str x).size) (m.map bc ++ Lib.strCells (str x))) :
    w.ownsRow B e 1 v (m ++ x).length ((m ++ x).map bc) := by
  rw [List.length_append, List.map_append, ← str_size x]; exact h
theorem own_app {w : World} {B : Nat} {e : TypeId} {v : Value} {m x : List UInt8} {n : Nat} (hn : x.length = n) (h : w.ownsRow B e 1 v (m.length + n) (m.map bc ++ x.map bc)) :
    w.ownsRow B e 1 v (m ++ x).length ((m ++ x).map bc) := by
  rw [List.length_append, List.map_append, hn]; exact h

/-- A row of bytes that the call owns, as a string. -/
theorem conv_own {P : Program} {w : World} {B : Nat} {e src : TypeId} {v : Value} {l : List UInt8} {n : Nat} (hs : P.underlying src = some (.slice e)) (he : P.underlying e = some (.int .u8))
    (h : w.ownsRow B e 1 v n (l.map bc)) : ∀ dst, P.underlying dst = some .string → (convert src dst v).run P w = .ok (.string (str l)) w := by
  intro dst hd
  obtain ⟨hlen, h⟩ := h
  have hlen' : l.length = n := by simpa using hlen
  rcases h with ⟨rfl, hn⟩ | ⟨g, cap, cur, rfl, _, hg, hn, _, hsz, htake⟩
  · have : l = [] := by cases l with
      | nil => rfl
      | cons a l => simp at hlen'; omega
    rw [this, run_convert_bytes_nil w src e hs he 0 0 dst hd]; rfl
  · have hxs : (l.map fun b => (b.toNat : Int)).length = n := by simpa using hlen'
    rw [run_convert_bytes_arg w src e hs he g 0 n cap (l.map fun b => (b.toNat : Int)) hxs (fun i hi => ?_) dst hd]
    · congr 2
      unfold strOfNums str
      rw [List.map_map]
      congr 1
      have : ((fun n : Int => UInt8.ofNat n.toNat) ∘ fun b : UInt8 => (b.toNat : Int)) = id := by funext b; simp
      rw [this, List.map_id]
    · rw [Nat.zero_add, cell_of_row _ _ _ _ _ _ hg]
      have e1 : (l.map bc)[i]? = cur.toList[i]? := by rw [← htake, List.getElem?_take]; simp [hi]
      rw [← Array.getElem?_toList, ← e1]
      have hil : i < l.length := by omega
      simp [hil, bc, List.getD]
end Go.Proofs.YtdiinlmeoifgjaaGreatDoor

/- Contracts of the leaf predicates on bytes of layer 1: words.lowerByte, words.digitByte, words.plainByte and the reference's lower, digit, plain. -/
namespace Go.Proofs.YtdiinlmeoifgjaaGreatDoor
open Go.RowKit

/-- A byte from a to z. -/
def lowB (c : Int) : Bool := decide (97 ≤ c ∧ c ≤ 122)
/-- A byte from 0 to 9. -/
def digB (c : Int) : Bool := decide (48 ≤ c ∧ c ≤ 57)
/-- A byte that stands for itself between quotes. -/
def plainB (c : Int) : Bool := decide (32 ≤ c ∧ c ≤ 126 ∧ c ≠ 34 ∧ c ≠ 92)


end Go.Proofs.YtdiinlmeoifgjaaGreatDoor

/- Contracts of words.Name, words.natural and the reference's Name, decimal: loops over the bytes of a string. -/
namespace Go.Proofs.YtdiinlmeoifgjaaGreatDoor
open Go.RowKit Go.PlainAid

def nameC (c : Int) : Bool := lowB c || digB c || decide (c = 45)
def nameB (s : ByteArray) : Bool := decide (1 ≤ s.size) && decide (s.size ≤ 16) && lowB (bt s 0) && allB nameC s

theorem nameB_long {s : ByteArray} (h : s.size < 1 ∨ 16 < s.size) : nameB s = false := by
  have e : (decide (1 ≤ s.size) && decide (s.size ≤ 16)) = false := by rw [Bool.eq_false_iff]; simp; omega
  unfold nameB; rw [e]; rfl
theorem nameB_first {s : ByteArray} (h : lowB (bt s 0) = false) : nameB s = false := by simp [nameB, h]
theorem nameB_no {s : ByteArray} {k : Nat} (h : k < s.size) (hp : nameC (bt s k) = false) : nameB s = false := by simp [nameB, allB_no h hp]
theorem nameB_yes {s : ByteArray} {k : Nat} (h1 : 1 ≤ s.size) (h2 : s.size ≤ 16) (h3 : lowB (bt s 0) = true) (hk : s.size ≤ k) (h : ∀ j, j < k → nameC (bt s j) = true) : nameB s = true := by
  simp [nameB, allB_yes hk h, h1, h2, h3]

theorem nameC_no {c : Int} (h1 : lowB c = false) (h2 : digB c = false) (h3 : (c != 45) = true) : nameC c = false := by
  simp at h3; simp [nameC, h1, h2, h3]
theorem nameC_3 {c : Int} (h3 : (c != 45) = false) : nameC c = true := by simp at h3; simp [nameC, h3]
theorem nameC_2 {c : Int} (h3 : digB c = true) : nameC c = true := by simp [nameC, h3]
theorem nameC_1 {c : Int} (h3 : lowB c = true) : nameC c = true := by simp [nameC, h3]

/-- The decimal form of an integer that is not negative. -/
def natB (s : ByteArray) : Bool := decide (s.size ≠ 0 ∧ ¬ (bt s 0 = 48 ∧ 1 < s.size)) && allB digB s
theorem natB_bad {s : ByteArray} (h : s.size = 0 ∨ (bt s 0 = 48 ∧ 1 < s.size)) : natB s = false := by
  unfold natB; rw [decide_eq_false (by omega)]; rfl
theorem natB_no {s : ByteArray} {k : Nat} (h : k < s.size) (hp : digB (bt s k) = false) : natB s = false := by simp [natB, allB_no h hp]
theorem natB_yes {s : ByteArray} {k : Nat} (h : s.size ≠ 0 ∧ ¬ (bt s 0 = 48 ∧ 1 < s.size)) (hk : s.size ≤ k) (hp : ∀ j, j < k → digB (bt s j) = true) : natB s = true := by
  unfold natB; rw [allB_yes hk hp, decide_eq_true h]; rfl
/-- A minus sign that stands before a digit other than 0, or before no digit. -/
def minusB (s : ByteArray) : Bool := decide (1 < s.size ∧ bt s 0 = 45 ∧ bt s 1 ≠ 48)
/-- The decimal form of an integer of any size. -/
def decB (s : ByteArray) : Bool := if minusB s then natB (s.extract 1 s.size) else natB s
/-- No digit, or a leading zero. -/
def badB (s : ByteArray) : Bool := decide (s.size = 0 ∨ (bt s 0 = 48 ∧ 1 < s.size))
theorem badB_yes {s : ByteArray} (h : badB s = true) : s.size = 0 ∨ (bt s 0 = 48 ∧ 1 < s.size) := by simpa [badB] using h
theorem badB_no {s : ByteArray} (h : badB s = false) : s.size ≠ 0 ∧ ¬ (bt s 0 = 48 ∧ 1 < s.size) := by
  have h' := of_decide_eq_false h; omega

end Go.Proofs.YtdiinlmeoifgjaaGreatDoor

/- A range over a function whose iterator keeps variables of its own in memory, in the m blocks that it makes first: one law for the caller. -/
namespace Go.Proofs.YtdiinlmeoifgjaaGreatDoor
open Go Go.RowKit

/-- The blocks of P₀, and those from a on before b, are as they were. -/
def KeepsB (P₀ : Nat → Prop) (a b : Nat) (W W' : World) : Prop := W.heap.size ≤ W'.heap.size ∧ ∀ k, (P₀ k ∨ (a ≤ k ∧ k < b)) → W'.heap[k]? = W.heap[k]?
theorem KeepsB.refl (P₀ : Nat → Prop) (a b : Nat) (W : World) : KeepsB P₀ a b W W := ⟨Nat.le_refl _, fun _ _ => rfl⟩
theorem KeepsB.trans {P₀ : Nat → Prop} {a b : Nat} {W W' W'' : World} (h : KeepsB P₀ a b W W') (k : KeepsB P₀ a b W' W'') : KeepsB P₀ a b W W'' :=
  ⟨Nat.le_trans h.1 k.1, fun j hj => (k.2 j hj).trans (h.2 j hj)⟩
theorem KeepsB.narrow {P₀ : Nat → Prop} {a b a' b' : Nat} {W W' : World} (h : KeepsB P₀ a b W W') (ha : a ≤ a') (hb : b' ≤ b) : KeepsB P₀ a' b' W W' :=
  ⟨h.1, fun j hj => h.2 j (hj.elim .inl fun h => .inr (by omega))⟩
theorem KeepsB.grown {P₀ : Nat → Prop} {a b : Nat} {W W' : World} {row : Option Nat} (hg : W.grownBy W' row) (hn : ∀ k, P₀ k → k < W.heap.size) (hb : b ≤ W.heap.size) (hr : ∀ r, row = some r → ¬ P₀ r ∧ (r < a ∨ b ≤ r)) : KeepsB P₀ a b W W' :=
  ⟨hg.size, fun k hk => hg.block k (hk.elim (hn k) fun h => by omega) (fun e => by
    have := hr k e.symm
    rcases hk with hk | hk
    · exact this.1 hk
    · omega)⟩
theorem KeepsB.below {P₀ : Nat → Prop} {a b : Nat} {W W' : World} (h : Below W.heap.size W W') (hn : ∀ k, P₀ k → k < W.heap.size) (hb : b ≤ W.heap.size) : KeepsB P₀ a b W W' :=
  ⟨h.size, fun k hk => h.block k (hk.elim (hn k) fun h => by omega)⟩

/-- What is said stands wherever new blocks have come, and of the others only those from a on before b have turned. -/
def Bears {β : Type} (a b : Nat) (I : β → World → Prop) : Prop :=
  ∀ s W W' row, I s W → W.grownBy W' row → (∀ r, row = some r → a ≤ r ∧ r < b) → I s W'

/-- The iterator's contract. -/
def SeqB {α : Type} (n : Nat) (P : Program) (g : Nat) (lb : Array Value) (encs : α → Array Value) (P₀ : Nat → Prop) (m : Nat) (S Sp : List α → Prop) (N : Nat) (w : World) : Prop :=
  ∀ (l : Nat) (J Jx : List α → World → Prop) (W : World), Below w.heap.size w W → Bears W.heap.size (W.heap.size + m) J → Bears W.heap.size (W.heap.size + m) Jx →
    (∀ pre x W1, J pre W1 → W.heap.size + m ≤ W1.heap.size → pre.length < N → YieldAt Fence.wide (n - 1) P l (encs x) W1 fun e W' =>
      (e = .returned (.bool true) ∧ J (pre ++ [x]) W' ∧ KeepsB P₀ W.heap.size (W.heap.size + m) W1 W') ∨ (e = .returned (.bool false) ∧ Jx (pre ++ [x]) W')) →
    J [] W →
    CallsIn Fence.wide n P g (#[.func (.yield l) #[] #[]] ++ lb) W fun e W' => (∃ v, e = .returned v) ∧ ((∃ xs, S xs ∧ J xs W') ∨ (∃ pre, Sp pre ∧ Jx pre W'))

/-- How the body of a round may be left. -/
def postB {α : Type} (P₀ : Nat → Prop) (a b : Nat) (I : List α → World → Prop) (Ix : Code → List α → World → Prop) (xs : List α) (W : World) : Exit → Act → World → Prop
  | .normal, _, W' => KeepsB P₀ a b W W' ∧ I xs W'
  | .ret, _, W' => KeepsB P₀ a b W W' ∧ Ix .ret xs W'
  | .exit id, _, W' => KeepsB P₀ a b W W' ∧ Ix (.exit id) xs W'
  | .goto t, _, W' => KeepsB P₀ a b W W' ∧ Ix (.goto t) xs W'
  | .panic _, _, _ => False
  | .outgrown, _, _ => False

theorem wpIn_rangeB {α : Type} {P : Program} {n : Nat} {g : Operand} {ps : Array Tmp} {assign body : Code} {Q : Exit → Act → World → Prop} {a : Act} {w : World} (h1 : 1 ≤ n)
    {gf : Nat} {lb : Array Value} (hg : a.eval g = .func (.func gf) #[] lb) (eg : ∀ args w, (callFunc gf args).run P w = .ok (.enter gf args) w)
    {encs : α → Array Value} {P₀ : Nat → Prop} {m : Nat} {S Sp : List α → Prop} {N : Nat} {w0 : World} (hseq : SeqB (n - 1) P gf lb encs P₀ m S Sp N w0) (hb0 : Below w0.heap.size w0 w) (hn₀ : ∀ k, P₀ k → k < w.heap.size) (hps : ∀ x, (encs x).size = ps.size)
    (I : List α → World → Prop) (Ix : Code → List α → World → Prop) (hI : Bears w.heap.size (w.heap.size + 2 + m) I) (hIx : ∀ c, Bears w.heap.size (w.heap.size + 2 + m) (Ix c)) (h0 : I [] w)
    (Ax : List α → α → Act → World → Prop) (hAx : ∀ pre x, Bears w.heap.size (w.heap.size + 2 + m) (Ax pre x))
    (hassign : ∀ (l : Nat) (pre : List α) (x : α) (W : World) (K : Act → World → Prop), I pre W → w.heap.size + 2 + m ≤ W.heap.size →
      (∀ a' W', KeepsB P₀ w.heap.size (w.heap.size + 2 + m) W W' → Ax pre x a' W' → K a' W') →
      assign.wpIn (Fence.wide.inRound l) (n - 1 - 1) P (Exit.then K (fun _ _ _ => False)) { tmps := (ps.zip (encs x)).foldl (fun t (p, v) => t.setIfInBounds p v) a.tmps, defers := [] } W)
    (hbody : ∀ (l : Nat) (pre : List α) (x : α) (a' : Act) (W : World), Ax pre x a' W → w.heap.size + 2 + m ≤ W.heap.size → pre.length < N →
      body.wpIn (Fence.wide.inRound l) (n - 1 - 1) P (postB P₀ w.heap.size (w.heap.size + 2 + m) I Ix (pre ++ [x]) W) a' W)
    (hdone : ∀ (xs : List α) (W : World), S xs → I xs W → W.heap[w.heap.size]? = some (.deferred (some [])) → Q .normal { a with defers := { target := .collected w.heap.size, args := #[] } :: a.defers } W)
    (hstop : ∀ (c : Code) (pre : List α) (W : World), Sp pre → Ix c pre W → W.heap[w.heap.size]? = some (.deferred (some [])) →
      c.wpIn Fence.wide n P Q { a with defers := { target := .collected w.heap.size, args := #[] } :: a.defers } W) :
    (Code.rangeFunc g ps assign body).wpIn Fence.wide n P Q a w := by
  refine wpIn_rangeFunc fun fn _ => ?_
  obtain ⟨D, hD⟩ : ∃ D, D = w.heap.size := ⟨_, rfl⟩
  simp only [← hD] at hI hIx hAx hassign hbody hdone hstop hn₀
  -- the loop's record
  let R : LoopState → Option Code → Obj := fun st pe => .loop { state := st, pending := pe, fn, tmps := a.tmps, params := ps, assign, body, defers := D }
  obtain ⟨W1, hW1⟩ : ∃ W1, W1 = (w.alloc (.deferred (some []))).alloc (R .ready none) := ⟨_, rfl⟩
  have hsz1 : W1.heap.size = D + 2 := by rw [hW1, hD]; simp
  have hrec1 : W1.heap[D + 1]? = some (R .ready none) := by
    have := World.alloc_heap_new (w.alloc (.deferred (some []))) (R .ready none)
    rw [World.size_alloc, ← hD] at this; rw [hW1]; exact this
  have hdef1 : W1.heap[D]? = some (.deferred (some [])) := by
    rw [hW1, hD]; exact (Below.heap_alloc _ _ _ (by simp)).trans (World.alloc_heap_new w _)
  have hin1 : I [] W1 := by
    rw [hW1]
    exact hI _ _ _ none (hI _ _ _ none h0 (World.grownBy_alloc w _ none) (fun r e => by cases e)) (World.grownBy_alloc _ _ none) (fun r e => by cases e)
  have hbel1 : Below w0.heap.size w0 W1 := by
    rw [hW1]; exact hb0.trans ((((Below.refl _ w).alloc (Nat.le_refl _) _).alloc (by simp) _).mono hb0.size)
  refine ⟨D + 1, [{ target := .collected D, args := #[] }], W1, { target := .fn (.func gf) lb, args := #[.func (.yield (D + 1)) #[] #[]] }, W1, gf, #[.func (.yield (D + 1)) #[] #[]] ++ lb, W1, ?_, ?_, fun _ _ => trivial, ?_, fun _ => h1, ?_⟩
  · have := run_enterLoop_outer (P := P) (w := w) fn a.tmps ps assign body
    rw [hW1]; simp only [R, hD]; exact this
  · simp only [resolve, hg]; simp [go_sem]
  · simp [invoke, go_sem, eg]
  -- the iterator runs over the caller's invariant, with the two blocks of the loop beside it
  refine (hseq (D + 1) (fun pre W => I pre W ∧ W.heap[D + 1]? = some (R .ready none) ∧ W.heap[D]? = some (.deferred (some [])))
    (fun pre W => ∃ c, Ix c pre W ∧ W.heap[D + 1]? = some (R .done (some c)) ∧ W.heap[D]? = some (.deferred (some []))) W1 hbel1 ?_ ?_ ?_ ⟨hin1, hrec1, hdef1⟩).mono ?_
  · rintro s A B row ⟨hi, hl, hk⟩ hg' hr
    rw [hsz1] at hr
    refine ⟨hI _ _ _ row hi hg' (fun r e => by have := hr r e; omega), ?_, ?_⟩
    · rw [hg'.block (D + 1) (Array.getElem?_eq_some_iff.1 hl).1 (fun e => by have := hr _ e.symm; omega)]; exact hl
    · rw [hg'.block D (Array.getElem?_eq_some_iff.1 hk).1 (fun e => by have := hr _ e.symm; omega)]; exact hk
  · rintro s A B row ⟨c, hi, hl, hk⟩ hg' hr
    rw [hsz1] at hr
    refine ⟨c, hIx c _ _ _ row hi hg' (fun r e => by have := hr r e; omega), ?_, ?_⟩
    · rw [hg'.block (D + 1) (Array.getElem?_eq_some_iff.1 hl).1 (fun e => by have := hr _ e.symm; omega)]; exact hl
    · rw [hg'.block D (Array.getElem?_eq_some_iff.1 hk).1 (fun e => by have := hr _ e.symm; omega)]; exact hk
  · -- one round
    rintro pre x W ⟨hi, hl, hk⟩ hsz hlen
    rw [hsz1] at hsz
    have hy := run_yield (P := P) (args := encs x) hl (hps x)
    refine ⟨fn, _, assign, body, hy, roundIn_of_wpIn trivial (hassign _ pre x W _ hi hsz ?_)⟩
    intro a' Wa hka hax
    have hla : Wa.heap[D + 1]? = some (R .ready none) := (hka.2 _ (.inr (by omega))).trans hl
    have hka' : Wa.heap[D]? = some (.deferred (some [])) := (hka.2 _ (.inr (by omega))).trans hk
    have hlt : D + 1 < Wa.heap.size := (Array.getElem?_eq_some_iff.1 hla).1
    refine ⟨_, run_beginRound hla rfl, ?_⟩
    obtain ⟨Wb, hWb⟩ : ∃ Wb, Wb = Wa.putObj (D + 1) (R .busy none) := ⟨_, rfl⟩
    show body.wpIn _ _ P _ a' (Wa.putObj (D + 1) (R .busy none))
    rw [← hWb]
    have hlb : Wb.heap[D + 1]? = some (R .busy none) := by rw [hWb]; exact World.putObj_heap_same hlt
    have hkb : Wb.heap[D]? = some (.deferred (some [])) := by rw [hWb]; exact (World.putObj_heap_other (by omega)).trans hka'
    have hsb : Wb.heap.size = Wa.heap.size := by rw [hWb]; simp
    have haxb : Ax pre x a' Wb := by rw [hWb]; exact hAx pre x a' Wa _ (some (D + 1)) hax (grownBy_putObj' _ _ _) (fun r e => by cases e; omega)
    have hput : ∀ (A : World) (o : Obj), KeepsB P₀ (D + 2) (D + 2 + m) A (A.putObj (D + 1) o) := fun A o =>
      ⟨by simp, fun k hk => World.putObj_heap_other (hk.elim (fun h => by have := hn₀ k h; omega) fun h => by omega)⟩
    have keep0 : KeepsB P₀ (D + 2) (D + 2 + m) W Wb := (hka.narrow (by omega) (Nat.le_refl _)).trans (by rw [hWb]; exact hput _ _)
    refine wpIn_mono (hbody _ pre x a' Wb haxb (by have := hka.1; omega) hlen) ?_
    have fin : ∀ (jump : Option Code) (W3 : World), KeepsB P₀ D (D + 2 + m) Wb W3 →
        (Instr.endRound (D + 1) jump).run P W3 = .ok (.bool jump.isNone) (W3.putObj (D + 1) (R (if jump.isNone then .ready else .done) jump)) ∧
        (W3.putObj (D + 1) (R (if jump.isNone then .ready else .done) jump)).heap[D + 1]? = some (R (if jump.isNone then .ready else .done) jump) ∧
        (W3.putObj (D + 1) (R (if jump.isNone then .ready else .done) jump)).heap[D]? = some (.deferred (some [])) := by
      intro jump W3 hk3
      have hl3 : W3.heap[D + 1]? = some (R .busy none) := (hk3.2 _ (.inr (by omega))).trans hlb
      exact ⟨run_endRound jump hl3, World.putObj_heap_same (Array.getElem?_eq_some_iff.1 hl3).1, (World.putObj_heap_other (by omega)).trans ((hk3.2 _ (.inr (by omega))).trans hkb)⟩
    rintro e a3 W3 hp
    cases e with
    | normal =>
      obtain ⟨hk3, hi3⟩ := hp
      obtain ⟨hr, hl4, hk4⟩ := fin none W3 hk3
      refine ⟨_, _, hr, .inl ⟨rfl, ⟨hI _ _ _ (some (D + 1)) hi3 (grownBy_putObj' _ _ _) (fun r e => by cases e; omega), hl4, hk4⟩, ?_⟩⟩
      rw [hsz1]
      exact (keep0.trans (hk3.narrow (by omega) (Nat.le_refl _))).trans (hput _ _)
    | ret =>
      obtain ⟨hk3, hi3⟩ := hp
      obtain ⟨hr, hl4, hk4⟩ := fin (some .ret) W3 hk3
      exact ⟨_, _, hr, .inr ⟨rfl, .ret, hIx _ _ _ _ (some (D + 1)) hi3 (grownBy_putObj' _ _ _) (fun r e => by cases e; omega), hl4, hk4⟩⟩
    | exit id =>
      obtain ⟨hk3, hi3⟩ := hp
      obtain ⟨hr, hl4, hk4⟩ := fin (some (.exit id)) W3 hk3
      exact ⟨_, _, hr, .inr ⟨rfl, .exit id, hIx _ _ _ _ (some (D + 1)) hi3 (grownBy_putObj' _ _ _) (fun r e => by cases e; omega), hl4, hk4⟩⟩
    | goto t =>
      obtain ⟨hk3, hi3⟩ := hp
      obtain ⟨hr, hl4, hk4⟩ := fin (some (.goto t)) W3 hk3
      exact ⟨_, _, hr, .inr ⟨rfl, .goto t, hIx _ _ _ _ (some (D + 1)) hi3 (grownBy_putObj' _ _ _) (fun r e => by cases e; omega), hl4, hk4⟩⟩
    | panic ch => exact hp.elim
    | outgrown => exact hp.elim
  · -- behind the iterator
    rintro e W2 ⟨⟨v, rfl⟩, (⟨xs, hS, hi, hl, hk⟩ | ⟨pre, hSp, c, hi, hl, hk⟩)⟩
    · refine ⟨none, _, run_endLoop hl (by simp), hdone xs _ hS (hI _ _ _ (some (D + 1)) hi (grownBy_putObj' _ _ _) (fun r e => by cases e; omega)) ((World.putObj_heap_other (by omega)).trans hk)⟩
    · refine ⟨some c, _, run_endLoop hl (by simp), hstop c pre _ hSp (hIx c _ _ _ (some (D + 1)) hi (grownBy_putObj' _ _ _) (fun r e => by cases e; omega)) ((World.putObj_heap_other (by omega)).trans hk)⟩
end Go.Proofs.YtdiinlmeoifgjaaGreatDoor
