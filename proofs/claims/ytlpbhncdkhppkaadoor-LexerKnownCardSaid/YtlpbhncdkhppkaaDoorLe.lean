/- The reference's text of a token. -/
import Derived.Test.YtlpbhncdkhppkaaDoorLd
namespace Go.Proofs.YtlpbhncdkhppkaaDoor
open Go.RowKit Go.PlainAid

theorem ck0 {k n : Int} {x : List UInt8} (h : ckT k n x = 0) : (k = 1 ∧ (n = 1 ∨ n = 2)) ∨ (k = 2 ∧ (n = 1 ∨ n = 2)) ∨ (k = 3 ∧ n = 0) ∨ (k = 4 ∧ n = 0) ∨ k = 5 ∨ (k = 6 ∧ (n = 0 ∨ n = 1)) ∨ k = 7 := by
  cases hz : kdB k n (x == [])
  · rw [ck_kind hz] at h; omega
  by_cases hlo : k < 1 ∨ 7 < k
  · rw [kd_no hlo] at hz; cases hz
  have hk : k = 1 ∨ k = 2 ∨ k = 3 ∨ k = 4 ∨ k = 5 ∨ k = 6 ∨ k = 7 := by omega
  rcases hk with rfl | rfl | rfl | rfl | rfl | rfl | rfl
  · rw [ck_else hz (by omega), tx_1] at h
    by_cases h1 : n = 1
    · exact .inl ⟨rfl, .inl h1⟩
    · by_cases h2 : n = 2
      · exact .inl ⟨rfl, .inr h2⟩
      · rw [if_neg h1, if_neg h2, if_pos rfl] at h; omega
  · rw [ck_else hz (by omega), tx_2] at h
    by_cases h1 : n = 1
    · exact .inr (.inl ⟨rfl, .inl h1⟩)
    · by_cases h2 : n = 2
      · exact .inr (.inl ⟨rfl, .inr h2⟩)
      · rw [if_neg h1, if_neg h2, if_pos rfl] at h; omega
  · rw [kd_q (.inl rfl)] at hz
    have : n = 0 := by simp at hz; exact hz.2
    exact .inr (.inr (.inl ⟨rfl, this⟩))
  · rw [kd_q (.inr rfl)] at hz
    have : n = 0 := by simp at hz; exact hz.2
    exact .inr (.inr (.inr (.inl ⟨rfl, this⟩)))
  · exact .inr (.inr (.inr (.inr (.inl rfl))))
  · rw [ck_else hz (by omega), tx_6] at h
    by_cases h1 : n = 0
    · exact .inr (.inr (.inr (.inr (.inr (.inl ⟨rfl, .inl h1⟩)))))
    · by_cases h2 : n = 1
      · exact .inr (.inr (.inr (.inr (.inr (.inl ⟨rfl, .inr h2⟩)))))
      · rw [if_neg h1, if_neg h2, if_pos rfl] at h; omega
  · exact .inr (.inr (.inr (.inr (.inr (.inr rfl)))))
theorem two_objs (w : World) (a b : Obj) : Below w.heap.size w ((w.alloc a).alloc b) := (below_b1 w a).trans ((below_b1 (w.alloc a) b).mono (below_b1 w a).size)
set_option maxRecDepth 50000 in
set_option maxHeartbeats 6400000 in
theorem rtext_any (k f t n : Int) (x : List UInt8) (w : World) (hn : fits n) (hc : ckT k n x = 0) :
    Calls Tryd.prog 44 #[.agg #[.int .i64 k, .int .i64 f, .int .i64 t, .int .i64 n, .string (str x)]] w fun e w' => e = .returned (.string (str (txT k n x))) ∧ Below w.heap.size w w' := by
  have HD := Lib.hid (fun W => rdigits_any n W hn)
  have hcs := ck0 hc
  clear hc hn
  have H1 := Lib.hid (tx_1 n x)
  have H2 := Lib.hid (tx_2 n x)
  have H6 := Lib.hid (tx_6 n x)
  have H5 : Hid (txT 5 n x = Lib.itoa n) := Lib.hid (by unfold txT; rw [if_pos rfl])
  have H7 : Hid (txT 7 n x = x) := Lib.hid (by unfold txT; rw [if_neg (by omega), if_pos rfl])
  obtain ⟨S, hS⟩ : ∃ S, str x = S := ⟨_, rfl⟩
  have HS := Lib.hid hS
  rw [hS]
  clear hS
  have HB := Lib.hid (below_b1 w (.cells #[.int .i64 k, .int .i64 f, .int .i64 t, .int .i64 n, .string S] 33))
  have HBB : Hid (∀ o, Below w.heap.size w ((w.alloc (.cells #[.int .i64 k, .int .i64 f, .int .i64 t, .int .i64 n, .string S] 33)).alloc o)) := Lib.hid (fun o => two_objs w _ o)
  rcases hcs with ⟨rfl, rfl | rfl⟩ | ⟨rfl, rfl | rfl⟩ | ⟨rfl, rfl⟩ | ⟨rfl, rfl⟩ | rfl | ⟨rfl, rfl | rfl⟩ | rfl
  · go_enter Tryd.func44, Tryd.ntmps44
    go_wp2
    -- MARK1
    go_ret
    exact ⟨by rw [H1.out]; rfl, HBB.out _⟩
  · go_enter Tryd.func44, Tryd.ntmps44
    go_wp2
    go_ret
    exact ⟨by rw [H1.out]; rfl, HBB.out _⟩
  · go_enter Tryd.func44, Tryd.ntmps44
    go_wp2
    go_ret
    exact ⟨by rw [H2.out]; rfl, HBB.out _⟩
  · go_enter Tryd.func44, Tryd.ntmps44
    go_wp2
    go_ret
    exact ⟨by rw [H2.out]; rfl, HBB.out _⟩
  · go_enter Tryd.func44, Tryd.ntmps44
    go_wp2
    go_ret
    exact ⟨rfl, HB.out⟩
  · go_enter Tryd.func44, Tryd.ntmps44
    go_wp2
    go_ret
    exact ⟨rfl, HB.out⟩
  · go_enter Tryd.func44, Tryd.ntmps44
    go_wp2_with fail
    refine (HD.out _).mono ?_
    rintro e w1 ⟨rfl, hb1⟩
    go_wp2_with fail
    go_ret
    exact ⟨by rw [H5.out]; rfl, HB.out.trans (hb1.mono HB.out.size)⟩
  · go_enter Tryd.func44, Tryd.ntmps44
    go_wp2
    go_ret
    exact ⟨by rw [H6.out]; rfl, HBB.out _⟩
  · go_enter Tryd.func44, Tryd.ntmps44
    go_wp2
    go_ret
    exact ⟨by rw [H6.out]; rfl, HBB.out _⟩
  · go_enter Tryd.func44, Tryd.ntmps44
    go_wp2
    go_ret
    exact ⟨by rw [H7.out, HS.out]; rfl, HB.out⟩
end Go.Proofs.YtlpbhncdkhppkaaDoor
