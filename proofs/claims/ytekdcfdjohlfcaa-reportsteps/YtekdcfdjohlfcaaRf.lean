/- Contracts of the reference's Pack and Read, of the laws' read(), and of epoch.Check, Seen, Less, over this seat's program. -/
import Derived.Test.YtekdcfdjohlfcaaEp
namespace Go.Proofs.Ytekdcfdjohlfcaa
open Go.ChangeShapes Go.WideShapes Go.ChangeAt Go.RowKit
namespace Ep

/-- what 64 bits are, as the reference has it -/
def noneB (e : Int) : Bool := decide (e = 0)
def tailB (e : Int) : Bool := decide (e = 18446744073709551615)

set_option maxHeartbeats 800000 in
theorem rread_own (h l : Int) (h0 : 1 ≤ h) (h1 : h ≤ 256) (h2 : 1 ≤ l) (h3 : l ≤ 1048576) (w : World) :
    Calls Try.prog 55 #[.int .i64 h, .int .i64 l] w fun r w' => r = .returned (.tuple #[.agg #[.bool false, .bool false, .int .i64 (h - 1), .int .i64 l], .bool true]) ∧ w' = w.alloc (.cells #[.bool false, .bool false, .int .i64 (h - 1), .int .i64 l] 127) := by
  go_enter Try.func55, Try.ntmps55
  go_wp2
  exact bodyPost_ret (v := .tuple #[.agg #[.bool false, .bool false, .int .i64 (h - 1), .int .i64 l], .bool true]) (by simp [results, Try.results55, go_sem]) rfl ⟨rfl, rfl⟩

set_option maxHeartbeats 800000 in
theorem rread_none (w : World) :
    Calls Try.prog 55 #[.int .i64 0, .int .i64 0] w fun r w' => r = .returned (.tuple #[.agg #[.bool true, .bool false, .int .i64 0, .int .i64 0], .bool true]) ∧ w' = w.alloc (.cells #[.bool true, .bool false, .int .i64 0, .int .i64 0] 127) := by
  go_enter Try.func55, Try.ntmps55
  go_wp2
  exact bodyPost_ret (v := .tuple #[.agg #[.bool true, .bool false, .int .i64 0, .int .i64 0], .bool true]) (by simp [results, Try.results55, go_sem]) rfl ⟨rfl, rfl⟩

set_option maxHeartbeats 800000 in
theorem rread_tail (w : World) :
    Calls Try.prog 55 #[.int .i64 4294967295, .int .i64 4294967295] w fun r w' => r = .returned (.tuple #[.agg #[.bool false, .bool true, .int .i64 0, .int .i64 0], .bool true]) ∧ w' = w.alloc (.cells #[.bool false, .bool true, .int .i64 0, .int .i64 0] 127) := by
  go_enter Try.func55, Try.ntmps55
  go_wp2
  exact bodyPost_ret (v := .tuple #[.agg #[.bool false, .bool true, .int .i64 0, .int .i64 0], .bool true]) (by simp [results, Try.results55, go_sem]) rfl ⟨rfl, rfl⟩

set_option maxHeartbeats 1600000 in
theorem rread_bad (h l : Int) (hn : ¬ (h = 0 ∧ l = 0)) (ht : ¬ (h = 4294967295 ∧ l = 4294967295)) (ho : h < 1 ∨ 256 < h ∨ l < 1 ∨ 1048576 < l) (w : World) :
    Calls Try.prog 55 #[.int .i64 h, .int .i64 l] w fun r w' => r = .returned (.tuple #[.agg #[.bool false, .bool false, .int .i64 0, .int .i64 0], .bool false]) ∧ w' = w.alloc (.cells #[.bool false, .bool false, .int .i64 0, .int .i64 0] 127) := by
  by_cases a : h < 1
  · by_cases a1 : h = 0
    · have a2 : (l == 0) = false := by simp; omega
      subst a1; clear hn ht ho
      go_enter Try.func55, Try.ntmps55
      go_wp2
      exact bodyPost_ret (v := .tuple #[.agg #[.bool false, .bool false, .int .i64 0, .int .i64 0], .bool false]) (by simp [results, Try.results55, go_sem]) rfl ⟨rfl, rfl⟩
    · have a2 : (h == 0) = false := by simp; omega
      clear hn ht ho a1
      go_enter Try.func55, Try.ntmps55
      go_wp2
      exact bodyPost_ret (v := .tuple #[.agg #[.bool false, .bool false, .int .i64 0, .int .i64 0], .bool false]) (by simp [results, Try.results55, go_sem]) rfl ⟨rfl, rfl⟩
  have b0 : (h == 0) = false := by simp; omega
  by_cases b : 256 < h
  · by_cases b1 : h = 4294967295
    · have a2 : (l == 4294967295) = false := by simp; omega
      subst b1; clear hn ht ho b0 a
      go_enter Try.func55, Try.ntmps55
      go_wp2
      exact bodyPost_ret (v := .tuple #[.agg #[.bool false, .bool false, .int .i64 0, .int .i64 0], .bool false]) (by simp [results, Try.results55, go_sem]) rfl ⟨rfl, rfl⟩
    · have a2 : (h == 4294967295) = false := by simp; omega
      clear hn ht ho b1
      go_enter Try.func55, Try.ntmps55
      go_wp2
      exact bodyPost_ret (v := .tuple #[.agg #[.bool false, .bool false, .int .i64 0, .int .i64 0], .bool false]) (by simp [results, Try.results55, go_sem]) rfl ⟨rfl, rfl⟩
  have b1 : (h == 4294967295) = false := by simp; omega
  by_cases c : l < 1
  · clear hn ht ho
    go_enter Try.func55, Try.ntmps55
    go_wp2
    exact bodyPost_ret (v := .tuple #[.agg #[.bool false, .bool false, .int .i64 0, .int .i64 0], .bool false]) (by simp [results, Try.results55, go_sem]) rfl ⟨rfl, rfl⟩
  have d : 1048576 < l := by omega
  clear hn ht ho
  go_enter Try.func55, Try.ntmps55
  go_wp2
  exact bodyPost_ret (v := .tuple #[.agg #[.bool false, .bool false, .int .i64 0, .int .i64 0], .bool false]) (by simp [results, Try.results55, go_sem]) rfl ⟨rfl, rfl⟩

set_option maxHeartbeats 400000 in
theorem seen_none (c : Int) (w : World) :
    Calls Try.prog 84 #[.int .u64 0, .int .i64 c] w fun r w' => r = .returned (.bool true) ∧ w' = w := by
  go_enter Try.func84, Try.ntmps84
  go_wp2
  go_ret
  exact ⟨rfl, rfl⟩

set_option maxHeartbeats 400000 in
theorem seen_any (e c : Int) (a0 : 0 ≤ e) (a1 : e ≤ 18446744073709551615) (h1 : ¬ e = 0) (w : World) :
    Calls Try.prog 84 #[.int .u64 e, .int .i64 c] w fun r w' => r = .returned (.bool (decide (1 ≤ clkOf e) && decide (clkOf e ≤ c))) ∧ w' = w := by
  have g1 : (e == 0) = false := by simp; omega
  have hmf := mkf
  clear h1
  go_enter Try.func84, Try.ntmps84
  go_wp2_with (go_at_call 95; refine (betw_clk e _ _ a0 a1 _).mono ?_; rintro r w' ⟨rfl, rfl⟩)
  go_ret
  exact ⟨rfl, rfl⟩

end Ep
end Go.Proofs.Ytekdcfdjohlfcaa
