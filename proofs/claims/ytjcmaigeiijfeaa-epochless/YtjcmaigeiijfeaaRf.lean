/- Contracts of the reference's Pack and Read, of the laws' read(), and of epoch.Check, Seen, Less, over this seat's program. -/
import Derived.Test.YtjcmaigeiijfeaaEp
namespace Go.Proofs.Ytjcmaigeiijfeaa
open Go.ChangeShapes Go.WideShapes Go.ChangeAt Go.RowKit
namespace Ep

set_option maxHeartbeats 400000 in
theorem rpack_ok (t c : Int) (h0 : 0 ≤ t) (h1 : t < 256) (h2 : 1 ≤ c) (h3 : c ≤ 1048576) (w : World) :
    Calls Try.prog 10 #[.int .i64 t, .int .i64 c] w fun r w' => r = .returned (.tuple #[.int .i64 (t + 1), .int .i64 c, .int .i64 0]) ∧ w' = w := by
  go_enter Try.func10, Try.ntmps10
  go_wp2
  go_ret3
  exact ⟨rfl, rfl⟩

set_option maxHeartbeats 400000 in
theorem rpack_no (t c : Int) (h : t < 0 ∨ 256 ≤ t ∨ c < 1 ∨ 1048576 < c) (w : World) :
    Calls Try.prog 10 #[.int .i64 t, .int .i64 c] w fun r w' => r = .returned (.tuple #[.int .i64 0, .int .i64 0, .int .i64 1]) ∧ w' = w := by
  by_cases a : t < 0
  · go_enter Try.func10, Try.ntmps10
    go_wp2
    go_ret3
    exact ⟨rfl, rfl⟩
  by_cases b : 256 ≤ t
  · go_enter Try.func10, Try.ntmps10
    go_wp2
    go_ret3
    exact ⟨rfl, rfl⟩
  by_cases hc : c < 1
  · clear h
    go_enter Try.func10, Try.ntmps10
    go_wp2
    go_ret3
    exact ⟨rfl, rfl⟩
  have d : 1048576 < c := by omega
  clear h
  go_enter Try.func10, Try.ntmps10
  go_wp2
  go_ret3
  exact ⟨rfl, rfl⟩

/-- what 64 bits are, as the reference has it -/
def noneB (e : Int) : Bool := decide (e = 0)
def tailB (e : Int) : Bool := decide (e = 18446744073709551615)

set_option maxHeartbeats 800000 in
theorem rread_own (h l : Int) (h0 : 1 ≤ h) (h1 : h ≤ 256) (h2 : 1 ≤ l) (h3 : l ≤ 1048576) (w : World) :
    Calls Try.prog 24 #[.int .i64 h, .int .i64 l] w fun r w' => r = .returned (.tuple #[.agg #[.bool false, .bool false, .int .i64 (h - 1), .int .i64 l], .bool true]) ∧ w' = w.alloc (.cells #[.bool false, .bool false, .int .i64 (h - 1), .int .i64 l] 33) := by
  go_enter Try.func24, Try.ntmps24
  go_wp2
  exact bodyPost_ret (v := .tuple #[.agg #[.bool false, .bool false, .int .i64 (h - 1), .int .i64 l], .bool true]) (by simp [results, Try.results24, go_sem]) rfl ⟨rfl, rfl⟩

set_option maxHeartbeats 800000 in
theorem rread_none (w : World) :
    Calls Try.prog 24 #[.int .i64 0, .int .i64 0] w fun r w' => r = .returned (.tuple #[.agg #[.bool true, .bool false, .int .i64 0, .int .i64 0], .bool true]) ∧ w' = w.alloc (.cells #[.bool true, .bool false, .int .i64 0, .int .i64 0] 33) := by
  go_enter Try.func24, Try.ntmps24
  go_wp2
  exact bodyPost_ret (v := .tuple #[.agg #[.bool true, .bool false, .int .i64 0, .int .i64 0], .bool true]) (by simp [results, Try.results24, go_sem]) rfl ⟨rfl, rfl⟩

set_option maxHeartbeats 800000 in
theorem rread_tail (w : World) :
    Calls Try.prog 24 #[.int .i64 4294967295, .int .i64 4294967295] w fun r w' => r = .returned (.tuple #[.agg #[.bool false, .bool true, .int .i64 0, .int .i64 0], .bool true]) ∧ w' = w.alloc (.cells #[.bool false, .bool true, .int .i64 0, .int .i64 0] 33) := by
  go_enter Try.func24, Try.ntmps24
  go_wp2
  exact bodyPost_ret (v := .tuple #[.agg #[.bool false, .bool true, .int .i64 0, .int .i64 0], .bool true]) (by simp [results, Try.results24, go_sem]) rfl ⟨rfl, rfl⟩

set_option maxHeartbeats 1600000 in
theorem rread_bad (h l : Int) (hn : ¬ (h = 0 ∧ l = 0)) (ht : ¬ (h = 4294967295 ∧ l = 4294967295)) (ho : h < 1 ∨ 256 < h ∨ l < 1 ∨ 1048576 < l) (w : World) :
    Calls Try.prog 24 #[.int .i64 h, .int .i64 l] w fun r w' => r = .returned (.tuple #[.agg #[.bool false, .bool false, .int .i64 0, .int .i64 0], .bool false]) ∧ w' = w.alloc (.cells #[.bool false, .bool false, .int .i64 0, .int .i64 0] 33) := by
  by_cases a : h < 1
  · by_cases a1 : h = 0
    · have a2 : (l == 0) = false := by simp; omega
      subst a1; clear hn ht ho
      go_enter Try.func24, Try.ntmps24
      go_wp2
      exact bodyPost_ret (v := .tuple #[.agg #[.bool false, .bool false, .int .i64 0, .int .i64 0], .bool false]) (by simp [results, Try.results24, go_sem]) rfl ⟨rfl, rfl⟩
    · have a2 : (h == 0) = false := by simp; omega
      clear hn ht ho a1
      go_enter Try.func24, Try.ntmps24
      go_wp2
      exact bodyPost_ret (v := .tuple #[.agg #[.bool false, .bool false, .int .i64 0, .int .i64 0], .bool false]) (by simp [results, Try.results24, go_sem]) rfl ⟨rfl, rfl⟩
  have b0 : (h == 0) = false := by simp; omega
  by_cases b : 256 < h
  · by_cases b1 : h = 4294967295
    · have a2 : (l == 4294967295) = false := by simp; omega
      subst b1; clear hn ht ho b0 a
      go_enter Try.func24, Try.ntmps24
      go_wp2
      exact bodyPost_ret (v := .tuple #[.agg #[.bool false, .bool false, .int .i64 0, .int .i64 0], .bool false]) (by simp [results, Try.results24, go_sem]) rfl ⟨rfl, rfl⟩
    · have a2 : (h == 4294967295) = false := by simp; omega
      clear hn ht ho b1
      go_enter Try.func24, Try.ntmps24
      go_wp2
      exact bodyPost_ret (v := .tuple #[.agg #[.bool false, .bool false, .int .i64 0, .int .i64 0], .bool false]) (by simp [results, Try.results24, go_sem]) rfl ⟨rfl, rfl⟩
  have b1 : (h == 4294967295) = false := by simp; omega
  by_cases c : l < 1
  · clear hn ht ho
    go_enter Try.func24, Try.ntmps24
    go_wp2
    exact bodyPost_ret (v := .tuple #[.agg #[.bool false, .bool false, .int .i64 0, .int .i64 0], .bool false]) (by simp [results, Try.results24, go_sem]) rfl ⟨rfl, rfl⟩
  have d : 1048576 < l := by omega
  clear hn ht ho
  go_enter Try.func24, Try.ntmps24
  go_wp2
  exact bodyPost_ret (v := .tuple #[.agg #[.bool false, .bool false, .int .i64 0, .int .i64 0], .bool false]) (by simp [results, Try.results24, go_sem]) rfl ⟨rfl, rfl⟩

set_option maxHeartbeats 800000 in
theorem read_own (e : Int) (h : ownB e = true) (w : World) :
    Calls Try.prog 12 #[.int .u64 e] w fun r w' => r = .returned (.tuple #[.agg #[.bool false, .bool false, .int .i64 (e / 4294967296 - 1), .int .i64 (e % 4294967296)], .bool true]) ∧ w' = (w.alloc (.cells #[.bool false, .bool false, .int .i64 (e / 4294967296 - 1), .int .i64 (e % 4294967296)] 33)).alloc (.cells #[.bool false, .bool false, .int .i64 (e / 4294967296 - 1), .int .i64 (e % 4294967296)] 33) := by
  obtain ⟨h0, h1, h2, h3⟩ := own_bd e h
  have hb := lo_bits e (by omega) (by omega)
  have a0 : 0 ≤ e := by omega
  have a1 : e ≤ 18446744073709551615 := by omega
  go_enter Try.func12, Try.ntmps12
  go_wp2_with (go_at_call 24; refine (rread_own _ _ h0 h1 h2 h3 _).mono ?_; rintro r w' ⟨rfl, rfl⟩)
  exact bodyPost_ret (v := .tuple #[.agg #[.bool false, .bool false, .int .i64 (e / 4294967296 - 1), .int .i64 (e % 4294967296)], .bool true]) (by simp [results, Try.results12, go_sem]) rfl ⟨rfl, rfl⟩

set_option maxHeartbeats 800000 in
theorem read_none (w : World) :
    Calls Try.prog 12 #[.int .u64 0] w fun r w' => r = .returned (.tuple #[.agg #[.bool true, .bool false, .int .i64 0, .int .i64 0], .bool true]) ∧ w' = (w.alloc (.cells #[.bool true, .bool false, .int .i64 0, .int .i64 0] 33)).alloc (.cells #[.bool true, .bool false, .int .i64 0, .int .i64 0] 33) := by
  have hb := lo_bits 0 (by decide) (by decide)
  go_enter Try.func12, Try.ntmps12
  go_wp2_with (go_at_call 24; refine (rread_none _).mono ?_; rintro r w' ⟨rfl, rfl⟩)
  exact bodyPost_ret (v := .tuple #[.agg #[.bool true, .bool false, .int .i64 0, .int .i64 0], .bool true]) (by simp [results, Try.results12, go_sem]) rfl ⟨rfl, rfl⟩

set_option maxHeartbeats 800000 in
theorem read_tail (w : World) :
    Calls Try.prog 12 #[.int .u64 18446744073709551615] w fun r w' => r = .returned (.tuple #[.agg #[.bool false, .bool true, .int .i64 0, .int .i64 0], .bool true]) ∧ w' = (w.alloc (.cells #[.bool false, .bool true, .int .i64 0, .int .i64 0] 33)).alloc (.cells #[.bool false, .bool true, .int .i64 0, .int .i64 0] 33) := by
  have hb := lo_bits 18446744073709551615 (by decide) (by decide)
  go_enter Try.func12, Try.ntmps12
  go_wp2_with (go_at_call 24; refine (rread_tail _).mono ?_; rintro r w' ⟨rfl, rfl⟩)
  exact bodyPost_ret (v := .tuple #[.agg #[.bool false, .bool true, .int .i64 0, .int .i64 0], .bool true]) (by simp [results, Try.results12, go_sem]) rfl ⟨rfl, rfl⟩

set_option maxHeartbeats 800000 in
theorem read_bad (e : Int) (a0 : 0 ≤ e) (a1 : e ≤ 18446744073709551615) (ho : ownB e = false) (hn : ¬ e = 0) (ht : ¬ e = 18446744073709551615) (w : World) :
    Calls Try.prog 12 #[.int .u64 e] w fun r w' => r = .returned (.tuple #[.agg #[.bool false, .bool false, .int .i64 0, .int .i64 0], .bool false]) ∧ w' = (w.alloc (.cells #[.bool false, .bool false, .int .i64 0, .int .i64 0] 33)).alloc (.cells #[.bool false, .bool false, .int .i64 0, .int .i64 0] 33) := by
  have h := not_bd e ho
  have hb := lo_bits e (by omega) (by omega)
  have H1 : Hid (¬ (e / 4294967296 = 0 ∧ e % 4294967296 = 0)) := by show ¬ _; omega
  have H2 : Hid (¬ (e / 4294967296 = 4294967295 ∧ e % 4294967296 = 4294967295)) := by show ¬ _; omega
  have H3 : Hid (e / 4294967296 < 1 ∨ 256 < e / 4294967296 ∨ e % 4294967296 < 1 ∨ 1048576 < e % 4294967296) := h
  clear h hn ht ho
  go_enter Try.func12, Try.ntmps12
  go_wp2_with (go_at_call 24; refine (rread_bad _ _ H1.out H2.out H3.out _).mono ?_; rintro r w' ⟨rfl, rfl⟩)
  exact bodyPost_ret (v := .tuple #[.agg #[.bool false, .bool false, .int .i64 0, .int .i64 0], .bool false]) (by simp [results, Try.results12, go_sem]) rfl ⟨rfl, rfl⟩


set_option maxHeartbeats 400000 in
theorem check_ok (e : Int) (a0 : 0 ≤ e) (a1 : e ≤ 18446744073709551615) (h : e = 0 ∨ e = 18446744073709551615 ∨ ownB e = true) (w : World) :
    Calls Try.prog 16 #[.int .u64 e] w fun r w' => r = .returned (.int .i64 0) ∧ w' = w := by
  by_cases h1 : e = 0
  · subst h1
    go_enter Try.func16, Try.ntmps16
    go_wp2
    go_ret
    exact ⟨rfl, rfl⟩
  by_cases h2 : e = 18446744073709551615
  · subst h2
    go_enter Try.func16, Try.ntmps16
    go_wp2
    go_ret
    exact ⟨rfl, rfl⟩
  have ho : ownB e = true := by rcases h with h | h | h <;> first | exact absurd h h1 | exact absurd h h2 | exact h
  have g1 : (e == 0) = false := by simp; omega
  have g2 : (e == 18446744073709551615) = false := by simp; omega
  clear h h1 h2
  go_enter Try.func16, Try.ntmps16
  go_wp2_with (go_at_call 26; refine (isOwned_any e a0 a1 _).mono ?_; rintro r w' ⟨rfl, rfl⟩)
  go_ret
  exact ⟨rfl, rfl⟩

set_option maxHeartbeats 400000 in
theorem check_no (e : Int) (a0 : 0 ≤ e) (a1 : e ≤ 18446744073709551615) (ho : ownB e = false) (h1 : ¬ e = 0) (h2 : ¬ e = 18446744073709551615) (w : World) :
    Calls Try.prog 16 #[.int .u64 e] w fun r w' => r = .returned (.int .i64 4) ∧ w' = w := by
  have g1 : (e == 0) = false := by simp; omega
  have g2 : (e == 18446744073709551615) = false := by simp; omega
  clear h1 h2
  go_enter Try.func16, Try.ntmps16
  go_wp2_with (go_at_call 26; refine (isOwned_any e a0 a1 _).mono ?_; rintro r w' ⟨rfl, rfl⟩)
  go_ret
  exact ⟨rfl, rfl⟩

set_option maxHeartbeats 400000 in
theorem seen_none (c : Int) (w : World) :
    Calls Try.prog 21 #[.int .u64 0, .int .i64 c] w fun r w' => r = .returned (.bool true) ∧ w' = w := by
  go_enter Try.func21, Try.ntmps21
  go_wp2
  go_ret
  exact ⟨rfl, rfl⟩

set_option maxHeartbeats 400000 in
theorem seen_any (e c : Int) (a0 : 0 ≤ e) (a1 : e ≤ 18446744073709551615) (h1 : ¬ e = 0) (w : World) :
    Calls Try.prog 21 #[.int .u64 e, .int .i64 c] w fun r w' => r = .returned (.bool (decide (1 ≤ clkOf e) && decide (clkOf e ≤ c))) ∧ w' = w := by
  have g1 : (e == 0) = false := by simp; omega
  have hmf := mkf
  clear h1
  go_enter Try.func21, Try.ntmps21
  go_wp2_with (go_at_call 27; refine (betw_clk e _ _ a0 a1 _).mono ?_; rintro r w' ⟨rfl, rfl⟩)
  go_ret
  exact ⟨rfl, rfl⟩

set_option maxHeartbeats 400000 in
theorem less_any (a b : Int) (a0 : 0 ≤ a) (a1 : a ≤ 18446744073709551615) (b0 : 0 ≤ b) (b1 : b ≤ 18446744073709551615) (w : World) :
    Calls Try.prog 20 #[.int .u64 a, .int .u64 b] w fun r w' => r = .returned (.bool ((tidOf a == tidOf b) && (decide (1 ≤ clkOf a) && decide (clkOf a ≤ clkOf b - 1)))) ∧ w' = w := by
  have hmf := mkf
  have hk := clk_rng b
  have step : ∀ x : Bool, (tidOf a == tidOf b) = x → Calls Try.prog 20 #[.int .u64 a, .int .u64 b] w fun r w' => r = .returned (.bool (x && (decide (1 ≤ clkOf a) && decide (clkOf a ≤ clkOf b - 1)))) ∧ w' = w := by
    intro x h
    cases x
    all_goals
      go_enter Try.func20, Try.ntmps20
      go_wp2_with fail
      refine (tid_any a a0 a1 _).mono ?_
      rintro r w' ⟨rfl, rfl⟩
      go_wp2_with fail
      refine (tid_any b b0 b1 _).mono ?_
      rintro r w' ⟨rfl, rfl⟩
      go_wp2_with (first | (go_at_call 15; refine (clk_any b b0 b1 _).mono ?_; rintro r w' ⟨rfl, rfl⟩) | (go_at_call 27; refine (betw_clk a _ _ a0 a1 _).mono ?_; rintro r w' ⟨rfl, rfl⟩))
      go_ret
      exact ⟨rfl, rfl⟩
  exact step _ rfl
set_option maxHeartbeats 800000 in
theorem rnext_ok (a b m : Int) (h0 : 0 ≤ b) (h1 : 1 ≤ m) (h2 : m ≤ 1048576) (h3 : b < m) (w : World) :
    Calls Try.prog 19 #[.agg #[.bool false, .bool false, .int .i64 a, .int .i64 b], .bool true, .int .i64 m] w fun r w' => r = .returned (.tuple #[.agg #[.bool false, .bool false, .int .i64 a, .int .i64 (b + 1)], .int .i64 0]) ∧ w' = ((w.alloc (.cells #[.bool false, .bool false, .int .i64 a, .int .i64 b] 33)).alloc (.cells #[.bool false, .bool false, .int .i64 a, .int .i64 (b + 1)] 33)).alloc (.cells #[.bool false, .bool false, .int .i64 a, .int .i64 b] 33) := by
  go_enter Try.func19, Try.ntmps19
  go_wp2_with ((go_at_call 13; go_in))
  exact bodyPost_ret (v := .tuple #[.agg #[.bool false, .bool false, .int .i64 a, .int .i64 (b + 1)], .int .i64 0]) (by simp [results, Try.results19, go_sem]) rfl ⟨rfl, rfl⟩

set_option maxHeartbeats 800000 in
theorem rnext_full (a b m : Int) (h1 : 1 ≤ m) (h2 : m ≤ 1048576) (h3 : m ≤ b) (w : World) :
    Calls Try.prog 19 #[.agg #[.bool false, .bool false, .int .i64 a, .int .i64 b], .bool true, .int .i64 m] w fun r w' => r = .returned (.tuple #[.agg #[.bool false, .bool false, .int .i64 0, .int .i64 0], .int .i64 5]) ∧ w' = ((w.alloc (.cells #[.bool false, .bool false, .int .i64 a, .int .i64 b] 33)).alloc (.cells #[.bool false, .bool false, .int .i64 0, .int .i64 0] 33)).alloc (.cells #[.bool false, .bool false, .int .i64 a, .int .i64 b] 33) := by
  go_enter Try.func19, Try.ntmps19
  go_wp2_with ((go_at_call 13; go_in))
  exact bodyPost_ret (v := .tuple #[.agg #[.bool false, .bool false, .int .i64 0, .int .i64 0], .int .i64 5]) (by simp [results, Try.results19, go_sem]) rfl ⟨rfl, rfl⟩

set_option maxHeartbeats 1600000 in
theorem rnext_arg (n t ok : Bool) (a b m : Int) (h : (ok && !n && !t) = false ∨ m < 1 ∨ 1048576 < m) (w : World) :
    Calls Try.prog 19 #[.agg #[.bool n, .bool t, .int .i64 a, .int .i64 b], .bool ok, .int .i64 m] w fun r w' => r = .returned (.tuple #[.agg #[.bool false, .bool false, .int .i64 0, .int .i64 0], .int .i64 1]) ∧ w' = ((w.alloc (.cells #[.bool n, .bool t, .int .i64 a, .int .i64 b] 33)).alloc (.cells #[.bool false, .bool false, .int .i64 0, .int .i64 0] 33)).alloc (.cells #[.bool n, .bool t, .int .i64 a, .int .i64 b] 33) := by
  cases ok
  · clear h
    go_enter Try.func19, Try.ntmps19
    go_wp2_with ((go_at_call 13; go_in))
    exact bodyPost_ret (v := .tuple #[.agg #[.bool false, .bool false, .int .i64 0, .int .i64 0], .int .i64 1]) (by simp [results, Try.results19, go_sem]) rfl ⟨rfl, rfl⟩
  cases n
  · cases t
    · have h' : m < 1 ∨ 1048576 < m := by
        rcases h with h | h
        · cases h
        · exact h
      clear h
      by_cases h1 : m < 1
      · clear h'
        go_enter Try.func19, Try.ntmps19
        go_wp2_with ((go_at_call 13; go_in))
        exact bodyPost_ret (v := .tuple #[.agg #[.bool false, .bool false, .int .i64 0, .int .i64 0], .int .i64 1]) (by simp [results, Try.results19, go_sem]) rfl ⟨rfl, rfl⟩
      · have h2 : 1048576 < m := by omega
        clear h'
        go_enter Try.func19, Try.ntmps19
        go_wp2_with ((go_at_call 13; go_in))
        exact bodyPost_ret (v := .tuple #[.agg #[.bool false, .bool false, .int .i64 0, .int .i64 0], .int .i64 1]) (by simp [results, Try.results19, go_sem]) rfl ⟨rfl, rfl⟩
    · clear h
      go_enter Try.func19, Try.ntmps19
      go_wp2_with ((go_at_call 13; go_in))
      exact bodyPost_ret (v := .tuple #[.agg #[.bool false, .bool false, .int .i64 0, .int .i64 0], .int .i64 1]) (by simp [results, Try.results19, go_sem]) rfl ⟨rfl, rfl⟩
  · clear h
    go_enter Try.func19, Try.ntmps19
    go_wp2_with ((go_at_call 13; go_in))
    exact bodyPost_ret (v := .tuple #[.agg #[.bool false, .bool false, .int .i64 0, .int .i64 0], .int .i64 1]) (by simp [results, Try.results19, go_sem]) rfl ⟨rfl, rfl⟩

theorem less_yes (a b : Int) (a0 : 0 ≤ a) (a1 : a ≤ 18446744073709551615) (b0 : 0 ≤ b) (b1 : b ≤ 18446744073709551615) (h : ((tidOf a == tidOf b) && (decide (1 ≤ clkOf a) && decide (clkOf a ≤ clkOf b - 1))) = true) (w : World) :
    Calls Try.prog 20 #[.int .u64 a, .int .u64 b] w fun r w' => r = .returned (.bool true) ∧ w' = w := by
  have := less_any a b a0 a1 b0 b1 w
  rw [h] at this
  exact this

end Ep
end Go.Proofs.Ytjcmaigeiijfeaa
